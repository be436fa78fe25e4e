/-
The fixed calls of layer 1: what 'alive' hands back.
-/
import Derived.Test.YtiadbapelkagiaaOf
import Derived.Deep.RegionWith
import Derived.Lib.SlBytesConst
namespace Go.Proofs.Ytiadbapelkagiaa
open Go.RowKit

/-- What was there at w0 is there still. -/
def Keeps (w0 W : World) : Prop := Below w0.heap.size w0 W
theorem Keeps.start (w : World) : Keeps w w := Below.refl _ _
theorem Keeps.drew {w0 W : World} (h : Keeps w0 W) : Keeps w0 W.drew := Below.drew h
theorem Keeps.alloc {w0 W : World} (h : Keeps w0 W) (o : Obj) : Keeps w0 (W.alloc o) := Below.alloc h h.size o
theorem Keeps.next {w0 W W' : World} (h : Keeps w0 W) (hb : Below W.heap.size W W') : Keeps w0 W' := Below.trans h (hb.mono h.size)

theorem bytes_nil (w : World) : Bytes w (.slice none 0 0) [] := ⟨by simp, none, 0, rfl, Or.inl rfl⟩
theorem rows_nil (w : World) : Rows' w (.slice none 0 0) [] := ⟨none, 0, [], rfl, rfl, Or.inl rfl, by simp⟩

theorem sum_nil : Crc.sum [] = 0 := by decide +kernel
theorem of_nil {w0 W : World} (h : Keeps w0 W) : Calls Try.prog 7 #[.slice none 0 0] W fun e W' => e = .returned (.int .u32 0) ∧ Keeps w0 W' :=
  (of_any _ [] W (bytes_nil W) (by simp)).mono fun _ _ ⟨he, hb⟩ => ⟨by rw [he, sum_nil]; rfl, h.next hb⟩
theorem join_nil {w0 W : World} (h : Keeps w0 W) : Calls Try.prog 9 #[.slice none 0 0] W fun e W' => e = .returned (.int .u32 0) ∧ Keeps w0 W' :=
  (join_any _ [] W (rows_nil W) (by simp) (by simp)).mono fun _ _ ⟨he, hb⟩ => ⟨by rw [he]; show _ = Ending.returned (.int .u32 ((0 : Nat) : Int)); rw [← sum_nil]; rfl, by rw [← hb]; exact h⟩

/-- The text 123456789. -/
def text : List Nat := [49, 50, 51, 52, 53, 54, 55, 56, 57]
/-- The world in which it has just been laid. -/
def laid (w : World) : World := w.alloc (.cells #[.int .u8 49, .int .u8 50, .int .u8 51, .int .u8 52, .int .u8 53, .int .u8 54, .int .u8 55, .int .u8 56, .int .u8 57] 5 (9, 10))

theorem text_cell (w : World) (i : Nat) (h : i < text.length) : (laid w).cell? ⟨w.heap.size, i, none⟩ = some (.int .u8 (text[i] : Nat)) := by
  have hi : i < 9 := h
  have hh : (laid w).heap[w.heap.size]? = some (.cells #[.int .u8 49, .int .u8 50, .int .u8 51, .int .u8 52, .int .u8 53, .int .u8 54, .int .u8 55, .int .u8 56, .int .u8 57] 5 (9, 10)) := heap_alloc_new _ _
  rw [cell_of_row _ _ _ _ _ _ hh]
  match i, hi with
  | 0, _ | 1, _ | 2, _ | 3, _ | 4, _ | 5, _ | 6, _ | 7, _ | 8, _ => rfl

/-- A piece of it. -/
theorem piece {w W : World} (h : Keeps (laid w) W) (a n c : Nat) (hn : a + n ≤ 9) : Bytes W (.slice (some ⟨w.heap.size, a, none⟩) n c) ((text.drop a).take n) := by
  have hlen : ((text.drop a).take n).length = n := by rw [List.length_take, List.length_drop]; show min n (9 - a) = n; omega
  refine ⟨?_, some ⟨w.heap.size, a, none⟩, c, by rw [hlen], Or.inr ⟨w.heap.size, a, rfl, Nat.lt_of_lt_of_le (by simp [laid]) h.size, ?_⟩⟩
  · intro x hx
    have : x ∈ text := List.mem_of_mem_drop (List.mem_of_mem_take hx)
    have hall : ∀ y ∈ text, y < 256 := by decide
    exact hall x this
  · intro i hi
    rw [hlen] at hi
    rw [h.cell (p := ⟨w.heap.size, a + i, none⟩) (by simp [laid]), text_cell w (a + i) (by show a + i < 9; omega)]
    simp

theorem of_text {w W : World} (h : Keeps (laid w) W) : Calls Try.prog 7 #[.slice (some ⟨w.heap.size, 0, none⟩) 9 9] W fun e W' => e = .returned (.int .u32 4236843288) ∧ Keeps (laid w) W' :=
  (of_any _ _ W (piece h 0 9 9 (by omega)) (by decide)).mono fun _ _ ⟨he, hb⟩ => ⟨by rw [he, show Crc.sum ((text.drop 0).take 9) = 4236843288 by decide +kernel]; rfl, h.next hb⟩

theorem rows_two {w : World} {u v : Value} {l m : List Nat} (h : Bytes w u l) (h' : Bytes w v m) : Rows' (w.alloc (.cells #[u, v] 22)) (.slice (some ⟨w.heap.size, 0, none⟩) 2 2) [l, m] := by
  have hb : Below w.heap.size w (w.alloc (.cells #[u, v] 22)) := (Below.refl _ _).alloc (Nat.le_refl _) _
  refine ⟨_, 2, [u, v], rfl, rfl, Or.inr ⟨w.heap.size, 0, rfl, ?_⟩, ?_⟩
  · intro i hi
    have : i = 0 ∨ i = 1 := by simp at hi; omega
    rcases this with rfl | rfl <;> go_simp
  · intro i hi
    have : i = 0 ∨ i = 1 := by simp at hi; omega
    rcases this with rfl | rfl
    · exact h.below hb
    · exact h'.below hb

theorem join_text {w W : World} (h : Keeps (laid w) W) : Calls Try.prog 9 #[.slice (some ⟨W.heap.size, 0, none⟩) 2 2]
    (W.alloc (.cells #[.slice (some ⟨w.heap.size, 0, none⟩) 3 9, .slice (some ⟨w.heap.size, 3, none⟩) 6 6] 22)) fun e W' => e = .returned (.int .u32 4236843288) ∧ Keeps (laid w) W' :=
  (join_any _ _ _ (rows_two (piece h 0 3 9 (by omega)) (piece h 3 6 6 (by omega))) (by decide) (by decide)).mono fun _ _ ⟨he, hb⟩ => ⟨by rw [he, show Crc.sum [(text.drop 0).take 3, (text.drop 3).take 6].flatten = 4236843288 by decide +kernel]; rfl, by rw [← hb]; exact h.alloc _⟩

set_option maxHeartbeats 1000000 in
theorem alive_any (w : World) :
    Calls Try.prog 6 #[] w fun e w' => e = .returned (.bool true) ∧ Below w.heap.size w w' := by
  have kc := fun (w : World) (C : Array Value) (n c : Nat) => Lib.run_convert_bytes_const (P := Try.prog) w 22 5 C n c Try.underlying22 Try.underlying5
  go_enter Try.func6, Try.ntmps6
  go_wp2_with fail
  have hk : Keeps (laid w) (laid w) := Keeps.start _
  go_region_with (first
    | (go_at_call_of 7 (Value.slice none 0 0); refine (of_nil (w0 := laid w) ?_).mono ?_; assumption; rintro e W1 ⟨rfl, hk4⟩)
    | (go_at_call_of 9 (Value.slice none 0 0); refine (join_nil (w0 := laid w) ?_).mono ?_; assumption; rintro e W1 ⟨rfl, hk3⟩)
    | (go_at_call 7; refine (of_text ?_).mono ?_; exact hk.drew; rintro e W1 ⟨rfl, hk1⟩)
    | (go_at_call 9; refine (join_text ?_).mono ?_; assumption; rintro e W1 ⟨rfl, hk2⟩))
  all_goals
    have hend : Below w.heap.size w _ := Below.trans ((Below.refl _ _).alloc (Nat.le_refl _) _) (Below.mono hk4 (by simp [laid]))
    go_wp2
    go_ret
    exact ⟨rfl, hend⟩
end Go.Proofs.Ytiadbapelkagiaa

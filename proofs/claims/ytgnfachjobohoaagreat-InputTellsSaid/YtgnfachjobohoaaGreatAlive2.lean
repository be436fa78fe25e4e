/-
The fixed calls of layer 3: all hold.
-/
import Derived.Test.YtgnfachjobohoaaGreatAlive
import Derived.Test.YtgnfachjobohoaaGreatFill
import Derived.Lib.SlBytesConst
namespace Go.Proofs.YtgnfachjobohoaaGreat
open Go.RowKit

/-- Bytes that may be read. -/
def ByR (W : World) (A : Option Addr) (bs : List Nat) : Prop :=
  bs = [] ∨ ∃ b p, A = some ⟨b, p, none⟩ ∧ b < W.heap.size ∧ ∀ (i x : Nat), bs[i]? = some x → W.cell? ⟨b, p + i, none⟩ = some (.int .u8 (x : Nat))
theorem ByR.next {W W' : World} {A : Option Addr} {bs : List Nat} (h : ByR W A bs) (hb : Below W.heap.size W W') : ByR W' A bs := by
  refine h.imp id ?_
  rintro ⟨b, p, e, h1, h2⟩
  exact ⟨b, p, e, Nat.lt_of_lt_of_le h1 hb.size, fun i x hx => (hb.cell (p := ⟨b, p + i, none⟩) h1).trans (h2 i x hx)⟩
theorem ByR.src {W : World} {A : Option Addr} {bs : List Nat} (h : ByR W A bs) (hA : A = none → bs = []) : Src W A bs.length (u8s bs) := by
  rcases h with rfl | ⟨b, p, rfl, h1, h2⟩
  · cases A with
    | none => exact Or.inr ⟨rfl, rfl, rfl⟩
    | some a => exact Or.inl ⟨a, rfl, fun j u hj => by simp [u8s] at hj⟩
  · refine Or.inl ⟨_, rfl, fun j u hj => ?_⟩
    obtain ⟨x, h3, rfl⟩ := u8s_get hj
    rw [add_plain]
    exact h2 j x h3
theorem own_byr {W : World} {B : Nat} {v : Value} {bs : List Nat} (h : W.ownsRow B 5 1 v bs.length (u8s bs)) : ∃ A c, v = .slice A bs.length c ∧ bs.length ≤ c ∧ ByR W A bs ∧ (A = none → bs = []) := by
  obtain ⟨hl, ⟨rfl, h0⟩ | ⟨k, cap, cur, rfl, hk, hh, hnc, hm, hsz, hcs⟩⟩ := id h
  · have hb0 : bs = [] := List.length_eq_zero_iff.1 h0
    subst hb0
    exact ⟨none, 0, rfl, Nat.le_refl _, Or.inl rfl, fun _ => rfl⟩
  · refine ⟨_, _, rfl, hnc, Or.inr ⟨k, 0, rfl, ?_, fun i x hx => ?_⟩, fun e => by cases e⟩
    · rcases Nat.lt_or_ge k W.heap.size with h1 | h1
      · exact h1
      · rw [Array.getElem?_eq_none h1] at hh; cases hh
    · have := h.cells rfl i (.int .u8 (x : Nat)) (by unfold u8s; rw [List.getElem?_map, hx]; rfl)
      rwa [add_plain] at this

theorem al_bytes : enc 300 ++ enc (zig (-1)) ++ (enc 1 ++ [97]) ++ encV (lv [0, 5]) = aliveBs := by
  have h1 := num_one (by decide) al_num
  have h2 := (int_one (by decide) al_int).1
  have h3 := text_one (by decide) al_text
  have h4 := (vector_one (by decide) al_vec).1
  rw [h1, h2, h3]
  simp only [List.append_nil] at h4
  rw [← h4]
  simp [List.append_assoc]
theorem vl05 : (vl (lv [0, 5])).toArray = #[.int .u32 0, .int .u32 5, .int .u32 0, .int .u32 0, .int .u32 0, .int .u32 0, .int .u32 0, .int .u32 0, .int .u32 0, .int .u32 0, .int .u32 0, .int .u32 0] := by
  unfold vl; rfl
theorem lv05_lt : ∀ i, lv [0, 5] i < 4294967296 := by
  intro i
  unfold lv
  match i with
  | 0 => simp
  | 1 => simp
  | i + 2 => simp
theorem run_enter {P : Program} {f : FuncId} {fn : Func} (hf : P.funcs[f]? = some fn) (hname : (fn.name == "runtime.NumGoroutine") = false) (hb : fn.body.isSome = true) (args : Array Value) (w : World) :
    (callFunc f args).run P w = .ok (.enter f args) w := by
  have h1 : fn.name ≠ "runtime.NumGoroutine" := by simpa using hname
  obtain ⟨c, hc⟩ := Option.isSome_iff_exists.1 hb
  simp [callFunc, hf, h1, hc]
theorem byr_two (W : World) (a b : Nat) : ByR (W.alloc (.cells #[.int .u8 (a : Nat), .int .u8 (b : Nat)] 5)) (some ⟨W.heap.size, 0, none⟩) [a, b] := by
  refine Or.inr ⟨W.heap.size, 0, rfl, by simp, fun i x hx => ?_⟩
  rw [cell_of_row _ W.heap.size (0 + i) _ _ _ (heap_alloc_new W _)]
  match i, hx with
  | 0, hx => simp at hx; subst hx; rfl
  | 1, hx => simp at hx; subst hx; rfl
theorem Al.next {c : Nat} {W W' : World} (h : Al c W) (hb : Below W.heap.size W W') : Al c W' := ⟨h.1.next hb, h.2.1.next hb, h.2.2.1.next hb, h.2.2.2.next hb⟩

end Go.Proofs.YtgnfachjobohoaaGreat

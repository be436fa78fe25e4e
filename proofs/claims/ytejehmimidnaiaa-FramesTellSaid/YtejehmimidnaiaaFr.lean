/-
frames: records; Right, Size, sum, Clone, Write, whole, open.
-/
import Derived.Test.YtejehmimidnaiaaCalls
import Derived.Test.YtejehmimidnaiaaBytes
import Derived.Test.YtejehmimidnaiaaRows2
import Derived.Test.YtejehmimidnaiaaStore
import Derived.Test.YtejehmimidnaiaaFrM
import Derived.Deep.CutRange
import Derived.Laws.MakeOwn
import Derived.Lib.SliceRun
namespace Go.Proofs.Ytejehmimidnaiaa
open Go.RowKit
open Byt
set_option linter.unusedSimpArgs false
set_option linter.unusedVariables false

/-- A record. -/
structure Rc where
  k : Int
  A : Option Addr
  c : Nat
  bs : List Nat
def Rc.cells (x : Rc) : List Value := [.int .i64 x.k, .slice x.A x.bs.length x.c]
theorem rc_len (x : Rc) : x.cells.length = 2 := rfl
theorem rc_arr (x : Rc) : x.cells.toArray = #[.int .i64 x.k, .slice x.A x.bs.length x.c] := rfl
theorem rc_0 (x : Rc) : x.cells[0]? = some (.int .i64 x.k) := rfl
theorem rc_1 (x : Rc) : x.cells[1]? = some (.slice x.A x.bs.length x.c) := rfl
theorem rc_one (x : Rc) : x.cells.toArray.all (·.oneCell') = true := by unfold Rc.cells; simp [Value.oneCell']
theorem rc_ones (x : Rc) : ∀ v ∈ x.cells, v.oneCell' = true := by
  intro v hv
  unfold Rc.cells at hv
  simp at hv
  rcases hv with rfl | rfl <;> rfl
theorem rcinfo (x : Rc) : (Try.prog.info? 24).map (·.size) = some x.cells.length := by rw [rc_len]; kernel_rfl
theorem rcinfoA (x : Rc) : (Try.prog.info? 24).map (·.size) = some x.cells.toArray.size := by rw [List.size_toArray, rc_len]; kernel_rfl
theorem rc_siz (x : Rc) : (2 : Nat) = x.cells.toArray.size := by rw [List.size_toArray, rc_len]
def rcs (l : List Rc) : List Value := l.flatMap Rc.cells
theorem rcs_len (l : List Rc) : (rcs l).length = l.length * 2 := by
  induction l with
  | nil => rfl
  | cons x l ih => simp only [rcs, List.flatMap_cons, List.length_append, List.length_cons] at ih ⊢; rw [ih, rc_len]; omega
theorem rcs_ones (l : List Rc) : ∀ v ∈ rcs l, v.oneCell' = true := by
  intro v hv
  obtain ⟨x, _, hx⟩ := List.mem_flatMap.1 hv
  exact rc_ones x v hx
theorem rcs_get : ∀ (l : List Rc) (i : Nat) (x : Rc) (j : Nat), l[i]? = some x → j < 2 → (rcs l)[2 * i + j]? = x.cells[j]?
  | [], i, x, j, h, _ => by simp at h
  | y :: l, 0, x, j, h, hj => by
    simp at h
    subst h
    simp only [rcs, List.flatMap_cons, Nat.mul_zero, Nat.zero_add]
    rw [List.getElem?_append_left (by rw [rc_len]; exact hj)]
  | y :: l, i + 1, x, j, h, hj => by
    have := rcs_get l i x j (by simpa using h) hj
    simp only [rcs, List.flatMap_cons] at this ⊢
    rw [List.getElem?_append_right (by rw [rc_len]; omega), rc_len, show 2 * (i + 1) + j - 2 = 2 * i + j by omega]
    exact this
theorem info_rc : ∃ i z, Try.prog.info? 24 = some i ∧ i.zero = some z ∧ i.size = 2 ∧ i.bytes = 32 ∧ z.cells.size = 2 := by
  have h : ((Try.prog.info? 24).bind fun i => i.zero.map fun z => (i.size, i.bytes, z.cells.size)) = some (2, 32, 2) := by kernel_rfl
  cases hi : Try.prog.info? 24 with
  | none => rw [hi] at h; cases h
  | some i =>
    rw [hi] at h
    simp only [Option.bind_some, Option.map_eq_some_iff, Prod.mk.injEq] at h
    obtain ⟨z, hz, h1, h2, h3⟩ := h
    exact ⟨i, z, rfl, hz, h1, h2, h3⟩
section
variable (W : World)
theorem right_any (k : Int) (A : Option Addr) (n c : Nat) : Calls Try.prog 11 #[.agg #[.int .i64 k, .slice A n c]] W fun e W' => e = .returned (.bool (Fr.rightB k n)) ∧ Below W.heap.size W W' := by
  unfold Fr.rightB
  by_cases h1 : 1 ≤ k
  · rw [decide_eq_true h1, Bool.true_and]
    have h1' : decide (1 ≤ k) = true := decide_eq_true h1
    by_cases h2 : k ≤ 255
    · rw [decide_eq_true h2, Bool.true_and]
      have h2' : decide (k ≤ 255) = true := decide_eq_true h2
      clear h1 h2
      go_enter Try.func11, Try.ntmps11
      go_wp2_with fail
      go_ret
      exact ⟨by first | rfl | (congr 3; simp; omega), (Below.refl _ _).alloc (Nat.le_refl _) _⟩
    · rw [decide_eq_false h2, Bool.false_and]
      have h2' : decide (k ≤ 255) = false := decide_eq_false h2
      clear h1 h2
      go_enter Try.func11, Try.ntmps11
      go_wp2_with fail
      go_ret
      exact ⟨rfl, (Below.refl _ _).alloc (Nat.le_refl _) _⟩
  · rw [decide_eq_false h1, Bool.false_and]
    have h1' : decide (1 ≤ k) = false := decide_eq_false h1
    clear h1
    go_enter Try.func11, Try.ntmps11
    go_wp2_with fail
    go_ret
    exact ⟨rfl, (Below.refl _ _).alloc (Nat.le_refl _) _⟩
/-- Bytes, as the sum takes them. -/
theorem bytes_byr {w : World} {A : Option Addr} {c : Nat} {bs : List Nat} (h : ByR w A bs) (h256 : ∀ x ∈ bs, x < 256) : Bytes w (.slice A bs.length c) bs := by
  refine ⟨h256, A, c, rfl, h.imp id ?_⟩
  rintro ⟨b, p, rfl, h1, h2⟩
  exact ⟨b, p, rfl, h1, fun i hi => h2 i _ (List.getElem?_eq_getElem hi)⟩
theorem rows_two {w : World} {u v : Value} {l m : List Nat} (h : Bytes w u l) (h' : Bytes w v m) : Rows' (w.alloc (.cells #[u, v] 22)) (.slice (some ⟨w.heap.size, 0, none⟩) 2 2) [l, m] := by
  have hb : Below w.heap.size w (w.alloc (.cells #[u, v] 22)) := (Below.refl _ _).alloc (Nat.le_refl _) _
  refine ⟨_, 2, [u, v], rfl, rfl, Or.inr ⟨w.heap.size, 0, rfl, ?_⟩, ?_⟩
  · intro i hi
    have : i = 0 ∨ i = 1 := by simp at hi; omega
    rcases this with rfl | rfl <;> go_simp
  · intro i hi
    have : i = 0 ∨ i = 1 := by simp at hi; omega
    rcases this with rfl | rfl
    · exact h.below hb
    · exact h'.below hb
set_option maxRecDepth 20000 in
theorem sum_any (k : Nat) (hk : k < 256) (A : Option Addr) (c : Nat) (bs : List Nat) (n : Nat) (hn : bs.length = n) (hm : n ≤ 60000) (h : ByR W A bs) (h256 : ∀ x ∈ bs, x < 256) :
    Calls Try.prog 15 #[.agg #[.int .i64 (k : Nat), .slice A n c]] W fun e W' => e = .returned (.int .u32 (Crc.sum (k :: bs) : Nat)) ∧ Below W.heap.size W W' := by
  subst hn
  obtain ⟨W1, hW1⟩ : ∃ W1, W1 = W.alloc (.cells #[.int .i64 (k : Nat), .slice A bs.length c] 24) := ⟨_, rfl⟩
  have b1 : Below W.heap.size W W1 := by rw [hW1]; exact (Below.refl _ _).alloc (Nat.le_refl _) _
  obtain ⟨W2, hW2⟩ : ∃ W2, W2 = W1.alloc (.cells #[.int .u8 (k : Nat)] 5) := ⟨_, rfl⟩
  have b2 : Below W1.heap.size W1 W2 := by rw [hW2]; exact (Below.refl _ _).alloc (Nat.le_refl _) _
  have r1 := (Blk.new W1 5 #[.int .u8 (k : Nat)])
  rw [← hW2] at r1
  have B1 : Bytes W2 (.slice (some ⟨W1.heap.size, 0, none⟩) 1 1) [k] := ⟨by simpa using hk, _, 1, rfl, Or.inr ⟨W1.heap.size, 0, rfl, r1.lt, fun i hi => by
    have : i = 0 := by simpa using hi
    subst this
    exact r1.cell 0⟩⟩
  have B2 : Bytes W2 (.slice A bs.length c) bs := (bytes_byr h h256).below b1 |>.below b2
  have hR := rows_two B1 B2
  have hs1 : W1.heap.size = W.heap.size + 1 := by rw [hW1]; simp
  have hs2 : W2.heap.size = W.heap.size + 2 := by rw [hW2]; simp [hs1]
  rw [hs2, hs1] at hR
  have HR := Lib.hid hR
  have hB := (b1.trans (b2.mono b1.size) |>.alloc (by omega) (.cells #[.slice (some ⟨W1.heap.size, 0, none⟩) 1 1, .slice A bs.length c] 22))
  rw [hs1] at hB
  have HB := Lib.hid hB
  have hf : Hid ([[k], bs].flatten = k :: bs) := Lib.hid (by simp)
  have hL := Lib.hid (show ∀ l ∈ [[k], bs], l.length ≤ 9223372036854775807 by intro l hl; simp at hl; rcases hl with rfl | rfl <;> first | omega | (simp; done) | (simp; omega))
  rw [hW2, hW1] at HR HB
  have hk1 : IntKind.u8.wrap (k : Int) = (k : Nat) := by rw [IntKind.wrap_u8]; omega
  clear h h256 r1 B1 B2 b1 b2 hs1 hs2 hW1 hW2 hm hk hR hB
  go_enter Try.func15, Try.ntmps15
  go_wp2_with (go_at_call 19; refine (join_any _ [[k], bs] _ HR.out (by simp) hL.out).mono ?_; rintro e w1 ⟨rfl, rfl⟩; rw [hf.out])
  go_ret
  exact ⟨rfl, HB.out⟩
end
end Go.Proofs.Ytejehmimidnaiaa

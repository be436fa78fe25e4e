/-
frames: the document's Read.
-/
import Derived.Test.YtejehmimidnaiaaFrS
import Derived.OwnWalk
namespace Go.Proofs.Ytejehmimidnaiaa
open Go.RowKit
open Byt
set_option linter.unusedSimpArgs false
set_option linter.unusedVariables false

namespace Fr
theorem at_drop (b : List Nat) (t i : Nat) : at' (b.drop t) i = at' b (t + i) := by
  unfold at'
  rw [List.getD_eq_getElem?_getD, List.getD_eq_getElem?_getD, List.getElem?_drop]
/-- As the document asks whether a frame is whole. -/
theorem whole_no1 {r : List Nat} (h : r.length < 9 ∨ at' r 0 ≠ 90) : whole r = 0 := by
  rcases h with h | h
  · exact whole_not h
  · unfold whole; rw [if_pos (Or.inr h)]
theorem whole_no2 {r : List Nat} {M : Nat} (h9 : 9 ≤ r.length) (h0 : at' r 0 = 90) (hM : M = at' r 2 * 256 + at' r 3) (h : r.length - 9 < M ∨ at' r (8 + M) ≠ 165) : whole r = 0 := by
  unfold whole
  rw [if_neg (by omega), ← hM, if_pos]
  rcases h with h | h
  · left; omega
  · exact Or.inr h
theorem whole_yes {r : List Nat} {M : Nat} (h9 : 9 ≤ r.length) (h0 : at' r 0 = 90) (hM : M = at' r 2 * 256 + at' r 3) (h1 : M ≤ r.length - 9) (h2 : at' r (8 + M) = 165) : whole r = 9 + M := by
  unfold whole
  rw [if_neg (by omega), ← hM, if_neg]
  rw [not_or]
  exact ⟨by omega, fun h => h h2⟩
theorem take_split {r : List Nat} {i j : Nat} (h : i ≤ j) : r.take j = r.take i ++ (r.take j).drop i := by
  have := List.take_append_drop i (r.take j)
  rw [List.take_take, Nat.min_eq_left h] at this
  exact this.symm
theorem one_at {r : List Nat} {i : Nat} (h : i < r.length) : (r.take (i + 1)).drop i = [at' r i] := by
  apply List.ext_getElem?
  intro j
  rw [List.getElem?_drop, List.getElem?_take]
  cases j with
  | zero =>
    rw [if_pos (by omega)]
    unfold at'
    rw [List.getD_eq_getElem?_getD, Nat.add_zero, List.getElem?_eq_getElem h]
    rfl
  | succ j => rw [if_neg (by omega)]; rfl
theorem bytes4 {a b c d s : Nat} (ha : a < 256) (hb : b < 256) (hc : c < 256) (hd : d < 256) (h : a * 16777216 + b * 65536 + c * 256 + d = s) : big4 s = [a, b, c, d] := by
  subst h
  unfold big4
  congr 1
  · omega
  · congr 1
    · omega
    · congr 1
      · omega
      · congr 1
        omega
/-- A whole frame is the frame of its record just if the sum is right. -/
theorem frame_take {r : List Nat} {M : Nat} (h9 : 9 + M ≤ r.length) (h0 : at' r 0 = 90) (hM : M = at' r 2 * 256 + at' r 3) (hl : at' r (8 + M) = 165) (h256 : ∀ i, at' r i < 256) :
    frame (kindOf r) (dataOf r (9 + M)) = r.take (9 + M) ↔ sumAt r (9 + M) = Crc.sum (kindOf r :: dataOf r (9 + M)) := by
  obtain ⟨s, hs⟩ : ∃ s, s = Crc.sum (kindOf r :: dataOf r (9 + M)) := ⟨_, rfl⟩
  have hdl : (dataOf r (9 + M)).length = M := by unfold dataOf; rw [List.length_drop, List.length_take]; omega
  have e : r.take (9 + M) = [90, kindOf r, M / 256 % 256, M % 256] ++ dataOf r (9 + M) ++ [at' r (4 + M), at' r (5 + M), at' r (6 + M), at' r (7 + M)] ++ [165] := by
    have h2 := h256 2
    have h3 := h256 3
    have e1 : r.take 4 = [90, kindOf r, M / 256 % 256, M % 256] := by
      rw [take_split (show 3 ≤ 4 by omega), take_split (show 2 ≤ 3 by omega), take_split (show 1 ≤ 2 by omega), take_split (show 0 ≤ 1 by omega), one_at (i := 0) (by omega), one_at (i := 1) (by omega), one_at (i := 2) (by omega), one_at (i := 3) (by omega), h0,
        show M / 256 % 256 = at' r 2 by omega, show M % 256 = at' r 3 by omega]
      rfl
    rw [take_split (show 8 + M ≤ 9 + M by omega), take_split (show 7 + M ≤ 8 + M by omega), take_split (show 6 + M ≤ 7 + M by omega), take_split (show 5 + M ≤ 6 + M by omega), take_split (show 4 + M ≤ 5 + M by omega), take_split (show 4 ≤ 4 + M by omega), e1]
    have o8 := one_at (r := r) (i := 8 + M) (by omega)
    have o7 := one_at (r := r) (i := 7 + M) (by omega)
    have o6 := one_at (r := r) (i := 6 + M) (by omega)
    have o5 := one_at (r := r) (i := 5 + M) (by omega)
    have o4 := one_at (r := r) (i := 4 + M) (by omega)
    rw [show 8 + M + 1 = 9 + M by omega, hl] at o8
    rw [show 7 + M + 1 = 8 + M by omega] at o7
    rw [show 6 + M + 1 = 7 + M by omega] at o6
    rw [show 5 + M + 1 = 6 + M by omega] at o5
    rw [show 4 + M + 1 = 5 + M by omega] at o4
    rw [o8, o7, o6, o5, o4]
    have : (r.take (4 + M)).drop 4 = dataOf r (9 + M) := by unfold dataOf; rw [show 9 + M - 5 = 4 + M by omega]
    rw [this]
    simp
  have hsum : sumAt r (9 + M) = at' r (4 + M) * 16777216 + at' r (5 + M) * 65536 + at' r (6 + M) * 256 + at' r (7 + M) := by
    unfold sumAt
    rw [show 9 + M - 5 = 4 + M by omega, show 9 + M - 4 = 5 + M by omega, show 9 + M - 3 = 6 + M by omega, show 9 + M - 2 = 7 + M by omega]
  rw [e, hsum]
  unfold frame
  rw [hdl, ← hs]
  constructor
  · intro h
    have h1 := List.append_cancel_right h
    have h2 := List.append_cancel_left h1
    unfold big4 at h2
    simp only [List.cons.injEq, and_true] at h2
    have hs32 : s < 4294967296 := by
      rw [hs]
      refine Crc.sum_lt fun x hx => ?_
      rcases List.mem_cons.1 hx with rfl | hx
      · exact h256 1
      · unfold dataOf at hx
        obtain ⟨i, hi, rfl⟩ := List.getElem_of_mem (List.mem_of_mem_take (List.mem_of_mem_drop hx))
        have := h256 i
        unfold at' at this
        rwa [List.getD_eq_getElem?_getD, List.getElem?_eq_getElem hi] at this
    rw [← h2.1, ← h2.2.1, ← h2.2.2.1, ← h2.2.2.2]
    exact big4_sum hs32
  · intro h
    rw [bytes4 (h256 _) (h256 _) (h256 _) (h256 _) h]
end Fr
end Go.Proofs.Ytejehmimidnaiaa

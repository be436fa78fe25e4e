/-
relay: Hear: who heard, what came and went.
-/
import Derived.Test.YtohnhokddbeheaaRl3
namespace Go.Proofs.Ytohnhokddbeheaa
open Go.RowKit
set_option linter.unusedSimpArgs false
set_option linter.unusedVariables false
namespace Rl
open Tr
def R.bump (x : R) (n : Nat) : R := x.put ((n - 1) * 2 + 1) (x.c ((n - 1) * 2 + 1) + 1)
def R.came (x : R) (f : Nat) : R := x.put (f * 2) (x.c (f * 2) + 1)
def R.went (x : R) (L : List Nat) : R := L.foldl R.bump x
theorem went_snoc (x : R) (L : List Nat) (n : Nat) : x.went (L ++ [n]) = (x.went L).bump n := by unfold R.went; rw [List.foldl_append]; rfl
theorem put_le {x : R} {M i v : Nat} (h : ∀ i, x.c i ≤ M) (hv : v ≤ M + 1) : ∀ j, (x.put i v).c j ≤ M + 1 := by
  intro j
  show (if j = i then v else x.c j) ≤ M + 1
  split
  · exact hv
  · have := h j; omega
theorem went_le : ∀ (L : List Nat) (x : R) (M : Nat), (∀ i, x.c i ≤ M) → ∀ i, (x.went L).c i ≤ M + L.length
  | [], x, M, h, i => h i
  | n :: L, x, M, h, i => by
    have := went_le L (x.bump n) (M + 1) (put_le h (by have := h ((n - 1) * 2 + 1); omega)) i
    show ((x.bump n).went L).c i ≤ _
    rw [List.length_cons]; omega
theorem went_t : ∀ (L : List Nat) (x : R), (x.went L).t = x.t ∧ (x.went L).nd = x.nd
  | [], _ => ⟨rfl, rfl⟩
  | n :: L, x => went_t L (x.bump n)
theorem went_c : ∀ (L : List Nat) (x : R), L.Nodup → (∀ n ∈ L, 1 ≤ n) → ∀ n, 1 ≤ n → (x.went L).c ((n - 1) * 2) = x.c ((n - 1) * 2) ∧ (x.went L).c ((n - 1) * 2 + 1) = x.c ((n - 1) * 2 + 1) + (if n ∈ L then 1 else 0)
  | [], x, _, _, n, _ => ⟨rfl, by simp [R.went]⟩
  | m :: L, x, hd, h1, n, hn => by
    obtain ⟨a, b⟩ := went_c L (x.bump m) (List.nodup_cons.1 hd).2 (fun k hk => h1 k (List.mem_cons_of_mem _ hk)) n hn
    have hm := h1 m (by simp)
    have e : x.went (m :: L) = (x.bump m).went L := rfl
    rw [e, a, b]
    constructor
    · show (if (n - 1) * 2 = (m - 1) * 2 + 1 then _ else x.c ((n - 1) * 2)) = _
      rw [if_neg (by omega)]
    · show (if (n - 1) * 2 + 1 = (m - 1) * 2 + 1 then x.c ((m - 1) * 2 + 1) + 1 else x.c ((n - 1) * 2 + 1)) + _ = _
      by_cases hnm : n = m
      · subst hnm
        rw [if_pos rfl, if_neg (List.nodup_cons.1 hd).1, if_pos (by simp)]
      · rw [if_neg (by omega)]
        congr 1
        simp [hnm]
/-- What Hear answers: to whom, which error, and what the relay has after it. -/
def HearP (x : R) (fr : Int) (l : Lab) (L : List Nat) (er : Int) (y : R) : Prop :=
  (jnB x.t x.nd fr = false ∧ er = 11 ∧ L = [] ∧ y = x) ∨
  (jnB x.t x.nd fr = true ∧ rightL l = false ∧ er = 3 ∧ L = [] ∧ y = x) ∨
  (jnB x.t x.nd fr = true ∧ rightL l = true ∧ er = 0 ∧ TwL x.t x.nd fr l.ca L ∧ y = (x.came (fr - 1).toNat).went L)
theorem has_next (t : Tv) (a b : Int) : Tr.hasB (nextL t a) b = jnB t a b := by
  rw [Bool.eq_iff_iff, Tr.has_iff]
  exact next_mem t a b
def Tn (B d : Nat) (W W' : World) : Prop := Turn B (fun k => k = d) W W'
section
variable {W W1 W2 : World} {B d : Nat}
theorem Tn.trans (h : Tn B d W W1) (h2 : Tn B d W1 W2) : Tn B d W W2 := ⟨h.1.trans h2.1, fun k hk hd => (h2.2 k (Nat.lt_of_lt_of_le hk h.1.size) hd).trans (h.2 k hk hd)⟩
theorem Tn.ofBelow (hB : B ≤ W.heap.size) (h : Below W.heap.size W W1) : Tn B d W W1 := ⟨h.mono hB, fun k hk _ => h.block k hk⟩
theorem Tn.cell (hB : B ≤ d) (i : Nat) (v : Value) : Tn B d W (W.setCell ⟨d, i, none⟩ v) := ⟨(Below.refl B W).setCell (p := ⟨d, i, none⟩) hB v, fun k _ hk => Below.heap_setCell W ⟨d, i, none⟩ v k hk⟩
theorem Tn.nds {b : Nat} {v : Value} {l : List Nat} {x : R} (h : Tn B d W W1) (hN : Nds W b v l) (hx : RP W B d x) : Nds W1 b v l :=
  hN.keep fun k hk => h.2 k (hN.lt k hk).2 (fun e => nds_ne hN hx.1 (by decide) (by rw [hk, e]))
end
end Rl
end Go.Proofs.Ytohnhokddbeheaa

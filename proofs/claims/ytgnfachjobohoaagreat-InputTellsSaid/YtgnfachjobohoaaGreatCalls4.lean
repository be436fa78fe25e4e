/-
clock.Covers, Order, Has, Next, Count.
clock.Order, Next, Count.
What comes of the next dot: of vectors alone.
-/
import Derived.Test.YtgnfachjobohoaaGreatFill
import Derived.Test.YtgnfachjobohoaaGreatPlan
namespace Go.Proofs.YtgnfachjobohoaaGreat
open Go.RowKit

theorem join_two (f g : Nat → Nat) : ∀ i, i < 12 → joinL [f, g] i = max (f i) (g i) := by
  intro i _
  show max (max 0 (f i)) (g i) = _
  omega
theorem cov_join (f g : Nat → Nat) : eqB (joinL [f, g]) f = covB f g := by
  rw [Bool.eq_iff_iff, eqB_iff, covB_iff]
  refine ⟨fun h i hi => ?_, fun h i hi => ?_⟩
  · have := h i hi; rw [join_two f g i hi] at this; omega
  · rw [join_two f g i hi]; have := h i hi; omega

theorem hasB_yes {f : Nat → Nat} {n : Int} {m : Nat} (h : rightB n m = true) : hasB f n m = decide (((getN f n : Nat) : Int) ≥ (m : Int)) := by
  unfold hasB; rw [h, Bool.true_and]; exact decide_eq_decide.2 (by omega)
theorem hasB_no {f : Nat → Nat} {n : Int} {m : Nat} (h : rightB n m = false) : hasB f n m = false := by
  unfold hasB; rw [h, Bool.false_and]

end Go.Proofs.YtgnfachjobohoaaGreat
namespace Go.Proofs.YtgnfachjobohoaaGreat
open Go.RowKit

def ordC (a b : Bool) : Int := if a then (if b then 0 else 1) else (if b then -1 else 2)
theorem eqB_cov (f g : Nat → Nat) : eqB f g = (covB f g && covB g f) := by
  rw [Bool.eq_iff_iff, Bool.and_eq_true, eqB_iff, covB_iff, covB_iff]
  refine ⟨fun h => ⟨fun i hi => by rw [h i hi]; exact Nat.le_refl _, fun i hi => by rw [h i hi]; exact Nat.le_refl _⟩, fun ⟨h1, h2⟩ i hi => by have := h1 i hi; have := h2 i hi; omega⟩
theorem ret_i64 {a b : Int} (h : a = b) : Ending.returned (.int .i64 a) = .returned (.int .i64 b) := by rw [h]

theorem sumK_le {f : Nat → Nat} (hf : ∀ i, f i < 4294967296) : ∀ k, sumK f k ≤ k * 4294967295
  | 0 => Nat.le_refl _
  | k + 1 => by have := sumK_le hf k; have := hf k; unfold sumK; omega
def Far (f : Nat → Nat) (k : Nat) (x : Value) : Prop := x = .int .u64 (sumK f k : Nat)

end Go.Proofs.YtgnfachjobohoaaGreat
namespace Go.Proofs.YtgnfachjobohoaaGreat
theorem hasB_at {f : Nat → Nat} {k m : Nat} (hk : k < 12) (h1 : 1 ≤ m) (h2 : m ≤ 1048576) : hasB f ((k : Int) + 1) m = decide (m ≤ f k) := by
  have hn := nodeB_yes (n := (k : Int) + 1) (by omega) (by omega)
  have hr : rightB ((k : Int) + 1) m = true := by unfold rightB; rw [hn]; simp; omega
  have hg : getN f ((k : Int) + 1) = f k := by unfold getN; rw [if_pos hn]; congr 1; omega
  unfold hasB; rw [hr, hg, Bool.true_and]
theorem sumK_upd (f : Nat → Nat) (k x : Nat) : ∀ n, sumK (fun i => if i = k then x else f i) n + (if k < n then f k else 0) = sumK f n + (if k < n then x else 0)
  | 0 => by simp [sumK]
  | n + 1 => by
    have ih := sumK_upd f k x n
    simp only [sumK]
    by_cases h : k = n
    · subst h
      rw [if_neg (by omega), if_neg (by omega)] at ih
      rw [if_pos rfl, if_pos (by omega), if_pos (by omega)]; omega
    · rw [if_neg (Ne.symm h)]
      by_cases h2 : k < n
      · rw [if_pos h2, if_pos h2] at ih
        rw [if_pos (by omega), if_pos (by omega)]; omega
      · rw [if_neg h2, if_neg h2] at ih
        rw [if_neg (by omega), if_neg (by omega)]; omega
theorem sumK_ext {f g : Nat → Nat} : ∀ n, (∀ i, i < n → f i = g i) → sumK f n = sumK g n
  | 0, _ => rfl
  | n + 1, h => by simp only [sumK]; rw [sumK_ext n (fun i hi => h i (by omega)), h n (by omega)]
theorem withF_at {f : Nat → Nat} {k : Nat} (hk : k < 12) (hc : f k < 1048576) (i : Nat) : withF f ((k : Int) + 1) (f k + 1) i = if i = k then f k + 1 else f i := by
  have hnb := nodeB_yes (n := (k : Int) + 1) (by omega) (by omega)
  have hr : rightB ((k : Int) + 1) (f k + 1) = true := by unfold rightB; rw [hnb]; simp; omega
  unfold withF
  rw [hr, Bool.true_and]
  by_cases h : i = k
  · subst h; simp
  · rw [if_neg (by simp; omega), if_neg h]
theorem ordI_next {f : Nat → Nat} {k : Nat} (hk : k < 12) (hc : f k < 1048576) : ordI (withF f ((k : Int) + 1) (f k + 1)) f = 1 := by
  have hw := withF_at hk hc
  have c1 : covB (withF f ((k : Int) + 1) (f k + 1)) f = true := (covB_iff _ _).2 fun i _ => by
    rw [hw i]
    by_cases h : i = k
    · subst h; rw [if_pos rfl]; omega
    · rw [if_neg h]; exact Nat.le_refl _
  have c2 : covB f (withF f ((k : Int) + 1) (f k + 1)) = false := by
    cases h : covB f (withF f ((k : Int) + 1) (f k + 1)) with
    | false => rfl
    | true => have := (covB_iff _ _).1 h k hk; rw [hw k, if_pos rfl] at this; omega
  unfold ordI; rw [c1, c2]; rfl
theorem sumK_next {f : Nat → Nat} {k : Nat} (hk : k < 12) (hc : f k < 1048576) : sumK (withF f ((k : Int) + 1) (f k + 1)) 12 = sumK f 12 + 1 := by
  rw [sumK_ext 12 (fun i _ => withF_at hk hc i)]
  have := sumK_upd f k (f k + 1) 12
  rw [if_pos hk, if_pos hk] at this; omega
end Go.Proofs.YtgnfachjobohoaaGreat

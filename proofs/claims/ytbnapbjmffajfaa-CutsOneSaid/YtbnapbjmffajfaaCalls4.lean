/-
clock.Covers, Order, Has, Next, Count.
clock.Order, Next, Count.
What comes of the next dot: of vectors alone.
-/
import Derived.Test.YtbnapbjmffajfaaFill
import Derived.Test.YtbnapbjmffajfaaPlan
namespace Go.Proofs.Ytbnapbjmffajfaa
open Go.RowKit

theorem join_two (f g : Nat → Nat) : ∀ i, i < 12 → joinL [f, g] i = max (f i) (g i) := by
  intro i _
  show max (max 0 (f i)) (g i) = _
  omega
theorem cov_join (f g : Nat → Nat) : eqB (joinL [f, g]) f = covB f g := by
  rw [Bool.eq_iff_iff, eqB_iff, covB_iff]
  refine ⟨fun h i hi => ?_, fun h i hi => ?_⟩
  · have := h i hi; rw [join_two f g i hi] at this; omega
  · rw [join_two f g i hi]; have := h i hi; omega

set_option maxHeartbeats 1000000 in
set_option maxRecDepth 20000 in
theorem covers_any (f g : Nat → Nat) (w : World) :
    Calls Try.prog 19 #[.agg (vl f).toArray, .agg (vl g).toArray] w fun e w' => e = .returned (.bool (covB f g)) ∧ Below w.heap.size w w' := by
  have hC := Lib.hid (cov_join f g)
  have heq := fun w => run_equalIn_vec 9998 (joinL [f, g]) f w
  go_enter Try.func19, Try.ntmps19
  go_wp2_with (first | (refine wpList_load_blk rfl 33 _ rfl _ rfl 33 (vl ?_).toArray _ ?_ Try.underlying33 rfl (vinfo _) ?_; rotate_left; (focus ((first | assumption | ((repeat' (first | assumption | ((with_reducible refine Blk.new' ?_); (first | rfl | (simp; done))) | ((with_reducible refine Blk.newRow ?_); (first | rfl | (simp; done))) | ((with_reducible refine Blk.farRow ?_ ?_ _); rotate_left; (first | (simp; done) | (simp; omega) | omega)) | (with_reducible refine Blk.alloc ?_ _) | (with_reducible refine Blk.drew ?_) | ((with_reducible refine Blk.far ?_ ?_ _); rotate_left; (first | (simp; done) | (simp; omega) | omega)) | (with_reducible refine Blk.next' (by assumption) ?_))); done))))) | (refine wpList_store_blk rfl 33 _ _ rfl _ 33 ?_ (vl _).toArray rfl rfl ?_ (vinfo _) ?_ (vl_all _) ?_; rotate_left; (focus ((first | assumption | ((repeat' (first | assumption | ((with_reducible refine Blk.new' ?_); (first | rfl | (simp; done))) | ((with_reducible refine Blk.newRow ?_); (first | rfl | (simp; done))) | ((with_reducible refine Blk.farRow ?_ ?_ _); rotate_left; (first | (simp; done) | (simp; omega) | omega)) | (with_reducible refine Blk.alloc ?_ _) | (with_reducible refine Blk.drew ?_) | ((with_reducible refine Blk.far ?_ ?_ _); rotate_left; (first | (simp; done) | (simp; omega) | omega)) | (with_reducible refine Blk.next' (by assumption) ?_))); done)))); (focus (first | exact (vl_size _).trans (vl_size _).symm | exact (vl_size _).symm)); intro _hrow))
  refine wp_region_plan (S := (fun w' => w'.rangeAt w.heap.size 0 (vl f) ∧ w'.rangeAt (w.heap.size + 1) 0 (vl g) ∧ Below w.heap.size w w')) [(0, true), (1, true), (4, true), (2, false), (3, false), (5, true), (6, true)] 9999 (by kernel_rfl) (by kernel_rfl) (by kernel_rfl) (by kernel_rfl) (by kernel_rfl) (fun _ _ d _ _ h => by cases d <;> exact h) ?_ (fun hHeld => ?_); (focus ((go_split_ands; (repeat' (refine And.intro ?_ ?_)); all_goals (first | assumption | ((repeat' (first | assumption | (with_reducible refine cell_drew ?_) | (with_reducible refine cell_next (by assumption) ?_) | ((with_reducible refine cell_new ?_ ?_); (focus (first | rfl | (simp; done))); (focus rfl)) | (with_reducible refine cell_alloc ?_))); done) | ((repeat' (first | assumption | (with_reducible refine (World.rangeAt_drew _ _ _ _).2 ?_) | (with_reducible refine vrange_next (by assumption) ?_) | (refine Blk.range (t := 33) ?_; (first | assumption | ((repeat' (first | assumption | ((with_reducible refine Blk.new' ?_); (first | rfl | (simp; done))) | ((with_reducible refine Blk.newRow ?_); (first | rfl | (simp; done))) | ((with_reducible refine Blk.farRow ?_ ?_ _); rotate_left; (first | (simp; done) | (simp; omega) | omega)) | (with_reducible refine Blk.alloc ?_ _) | (with_reducible refine Blk.drew ?_) | ((with_reducible refine Blk.far ?_ ?_ _); rotate_left; (first | (simp; done) | (simp; omega) | omega)) | (with_reducible refine Blk.next' (by assumption) ?_))); done))) | (with_reducible refine World.rangeAt_alloc ?_ _))); done) | ((repeat' (first | exact Below.refl _ _ | assumption | (with_reducible refine below_alloc' ?_) | (with_reducible refine Below.drew ?_) | (with_reducible refine below_next' (by assumption) ?_) | (with_reducible refine below_setRow ?_ ?_ _) | (with_reducible refine Below.setCell ?_ ?_ _) | (with_reducible refine below_next (by assumption) ?_ ?_) | (with_reducible refine Below.alloc ?_ ?_ _) | exact Nat.le_refl _ | (exact below_size (by assumption)) | (with_reducible refine size_alloc ?_) | (with_reducible refine size_setRow' ?_) | (with_reducible refine size_setCell' ?_) | (with_reducible refine size_next (by assumption) ?_) | omega | (simp; done) | (simp; omega))); done))))); simp only [List.map_cons, List.map_nil, List.getElem?_toArray, List.getElem?_cons_zero, List.getElem?_cons_succ]
  (repeat (first | (refine wpPlan.take (v := undef) (Or.inr ⟨by rfl, rfl⟩) ?_; simp only [Act.put, List.setIfInBounds_toArray, List.set_cons_zero, List.set_cons_succ]) | (refine wpPlan.take (v := .agg (vl ?_).toArray) (yieldsIf_load_mid rfl 33 _ rfl _ _ rfl (vl _) _ ?_ Try.underlying33 rfl (vinfoL _)) ?_; rotate_left; (focus (intro _ hS; (try dsimp only at hS); go_split_ands; assumption)); simp only [Act.put, List.setIfInBounds_toArray, List.set_cons_zero, List.set_cons_succ]) | (refine wpPlan.take (v := ?_) (Or.inl ⟨by rfl, ?_⟩) ?_; rotate_left; (focus (intro _ hS; (try dsimp only at hS); go_split_ands; (try subst hS); go_simp; (try (with_reducible rfl)); done)); simp only [Act.put, List.setIfInBounds_toArray, List.set_cons_zero, List.set_cons_succ]) | (refine wpPlan.carry (fun K hK => ?_); (first | (refine step_buildSlice2 (by rfl) _ _ rfl rfl rfl ?_) | go_simp); (try (first  | (go_at_call 34; refine (join_any _ [f, g] _ (vecs_blk ?_) (by simp)).mono ?_; (focus ((first | assumption | ((repeat' (first | assumption | ((with_reducible refine Blk.new' ?_); (first | rfl | (simp; done))) | ((with_reducible refine Blk.newRow ?_); (first | rfl | (simp; done))) | ((with_reducible refine Blk.farRow ?_ ?_ _); rotate_left; (first | (simp; done) | (simp; omega) | omega)) | (with_reducible refine Blk.alloc ?_ _) | (with_reducible refine Blk.drew ?_) | ((with_reducible refine Blk.far ?_ ?_ _); rotate_left; (first | (simp; done) | (simp; omega) | omega)) | (with_reducible refine Blk.next' (by assumption) ?_))); done)))); rintro e W' ⟨rfl, hb⟩))); (try (go_wp2_with fail)); refine hK.out _ _ ?_ (fun hHeld' => ?_); (focus ((go_split_ands; (repeat' (refine And.intro ?_ ?_)); all_goals (first | assumption | ((repeat' (first | assumption | (with_reducible refine cell_drew ?_) | (with_reducible refine cell_next (by assumption) ?_) | ((with_reducible refine cell_new ?_ ?_); (focus (first | rfl | (simp; done))); (focus rfl)) | (with_reducible refine cell_alloc ?_))); done) | ((repeat' (first | assumption | (with_reducible refine (World.rangeAt_drew _ _ _ _).2 ?_) | (with_reducible refine vrange_next (by assumption) ?_) | (refine Blk.range (t := 33) ?_; (first | assumption | ((repeat' (first | assumption | ((with_reducible refine Blk.new' ?_); (first | rfl | (simp; done))) | ((with_reducible refine Blk.newRow ?_); (first | rfl | (simp; done))) | ((with_reducible refine Blk.farRow ?_ ?_ _); rotate_left; (first | (simp; done) | (simp; omega) | omega)) | (with_reducible refine Blk.alloc ?_ _) | (with_reducible refine Blk.drew ?_) | ((with_reducible refine Blk.far ?_ ?_ _); rotate_left; (first | (simp; done) | (simp; omega) | omega)) | (with_reducible refine Blk.next' (by assumption) ?_))); done))) | (with_reducible refine World.rangeAt_alloc ?_ _))); done) | ((repeat' (first | exact Below.refl _ _ | assumption | (with_reducible refine below_alloc' ?_) | (with_reducible refine Below.drew ?_) | (with_reducible refine below_next' (by assumption) ?_) | (with_reducible refine below_setRow ?_ ?_ _) | (with_reducible refine Below.setCell ?_ ?_ _) | (with_reducible refine below_next (by assumption) ?_ ?_) | (with_reducible refine Below.alloc ?_ ?_ _) | exact Nat.le_refl _ | (exact below_size (by assumption)) | (with_reducible refine size_alloc ?_) | (with_reducible refine size_setRow' ?_) | (with_reducible refine size_setCell' ?_) | (with_reducible refine size_next (by assumption) ?_) | omega | (simp; done) | (simp; omega))); done))))); clear hK K hHeld; have hHeld := hHeld'; clear hHeld'; (try clear hb); (try simp only [Act.put, List.setIfInBounds_toArray, List.set_cons_zero, List.set_cons_succ])))); refine wpPlan.done ?_
  go_wp2_with fail
  go_ret
  exact ⟨ret_bool hC.out, hHeld.2.2⟩

theorem hasB_yes {f : Nat → Nat} {n : Int} {m : Nat} (h : rightB n m = true) : hasB f n m = decide (((getN f n : Nat) : Int) ≥ (m : Int)) := by
  unfold hasB; rw [h, Bool.true_and]; exact decide_eq_decide.2 (by omega)
theorem hasB_no {f : Nat → Nat} {n : Int} {m : Nat} (h : rightB n m = false) : hasB f n m = false := by
  unfold hasB; rw [h, Bool.false_and]

end Go.Proofs.Ytbnapbjmffajfaa
namespace Go.Proofs.Ytbnapbjmffajfaa
open Go.RowKit

def ordC (a b : Bool) : Int := if a then (if b then 0 else 1) else (if b then -1 else 2)
theorem eqB_cov (f g : Nat → Nat) : eqB f g = (covB f g && covB g f) := by
  rw [Bool.eq_iff_iff, Bool.and_eq_true, eqB_iff, covB_iff, covB_iff]
  refine ⟨fun h => ⟨fun i hi => by rw [h i hi]; exact Nat.le_refl _, fun i hi => by rw [h i hi]; exact Nat.le_refl _⟩, fun ⟨h1, h2⟩ i hi => by have := h1 i hi; have := h2 i hi; omega⟩
theorem ret_i64 {a b : Int} (h : a = b) : Ending.returned (.int .i64 a) = .returned (.int .i64 b) := by rw [h]

set_option maxHeartbeats 1000000 in
set_option maxRecDepth 20000 in
theorem order_any (f g : Nat → Nat) (w : World) :
    Calls Try.prog 11 #[.agg (vl f).toArray, .agg (vl g).toArray] w fun e w' => e = .returned (.int .i64 (ordI f g)) ∧ Below w.heap.size w w' := by
  have hq := eqB_cov f g
  have hc1 : covB f g = true ∨ covB f g = false := by cases covB f g <;> simp
  have hc2 : covB g f = true ∨ covB g f = false := by cases covB g f <;> simp
  have HO := Lib.hid (show ordI f g = ordC (covB f g) (covB g f) from rfl)
  have heq : ∀ w, (Op.equalIn 10000 33 (.agg (vl f).toArray) (.agg (vl g).toArray)).run Try.prog w = .ok (eqB f g) w := run_equalIn_vec 9998 f g
  rw [hq] at heq
  clear hq
  rcases hc1 with h1 | h1
  all_goals rcases hc2 with h2 | h2
  all_goals
    rw [h1, h2] at heq HO
    go_enter Try.func11, Try.ntmps11
    go_wp2_with (first | (first | (refine wpList_load_blk rfl 33 _ rfl _ rfl 33 (vl ?_).toArray _ ?_ Try.underlying33 rfl (vinfo _) ?_; rotate_left; (focus ((first | assumption | ((repeat' (first | assumption | ((with_reducible refine Blk.new' ?_); (first | rfl | (simp; done))) | ((with_reducible refine Blk.newRow ?_); (first | rfl | (simp; done))) | ((with_reducible refine Blk.farRow ?_ ?_ _); rotate_left; (first | (simp; done) | (simp; omega) | omega)) | (with_reducible refine Blk.alloc ?_ _) | (with_reducible refine Blk.drew ?_) | ((with_reducible refine Blk.far ?_ ?_ _); rotate_left; (first | (simp; done) | (simp; omega) | omega)) | (with_reducible refine Blk.next' (by assumption) ?_))); done))))) | (refine wpList_store_blk rfl 33 _ _ rfl _ 33 ?_ (vl _).toArray rfl rfl ?_ (vinfo _) ?_ (vl_all _) ?_; rotate_left; (focus ((first | assumption | ((repeat' (first | assumption | ((with_reducible refine Blk.new' ?_); (first | rfl | (simp; done))) | ((with_reducible refine Blk.newRow ?_); (first | rfl | (simp; done))) | ((with_reducible refine Blk.farRow ?_ ?_ _); rotate_left; (first | (simp; done) | (simp; omega) | omega)) | (with_reducible refine Blk.alloc ?_ _) | (with_reducible refine Blk.drew ?_) | ((with_reducible refine Blk.far ?_ ?_ _); rotate_left; (first | (simp; done) | (simp; omega) | omega)) | (with_reducible refine Blk.next' (by assumption) ?_))); done)))); (focus (first | exact (vl_size _).trans (vl_size _).symm | exact (vl_size _).symm)); intro _hrow)) | ((go_at_call 19; refine (covers_any _ _ _).mono ?_; rintro e w' ⟨rfl, hb⟩); (first | rw [h1] | rw [h2])))
    go_ret
    exact ⟨ret_i64 HO.out.symm, by (repeat' (first | exact Below.refl _ _ | assumption | (with_reducible refine below_alloc' ?_) | (with_reducible refine Below.drew ?_) | (with_reducible refine below_next' (by assumption) ?_) | (with_reducible refine below_setRow ?_ ?_ _) | (with_reducible refine Below.setCell ?_ ?_ _) | (with_reducible refine below_next (by assumption) ?_ ?_) | (with_reducible refine Below.alloc ?_ ?_ _) | exact Nat.le_refl _ | (exact below_size (by assumption)) | (with_reducible refine size_alloc ?_) | (with_reducible refine size_setRow' ?_) | (with_reducible refine size_setCell' ?_) | (with_reducible refine size_next (by assumption) ?_) | omega | (simp; done) | (simp; omega)))⟩

theorem sumK_le {f : Nat → Nat} (hf : ∀ i, f i < 4294967296) : ∀ k, sumK f k ≤ k * 4294967295
  | 0 => Nat.le_refl _
  | k + 1 => by have := sumK_le hf k; have := hf k; unfold sumK; omega
def Far (f : Nat → Nat) (k : Nat) (x : Value) : Prop := x = .int .u64 (sumK f k : Nat)

end Go.Proofs.Ytbnapbjmffajfaa
namespace Go.Proofs.Ytbnapbjmffajfaa
theorem hasB_at {f : Nat → Nat} {k m : Nat} (hk : k < 12) (h1 : 1 ≤ m) (h2 : m ≤ 1048576) : hasB f ((k : Int) + 1) m = decide (m ≤ f k) := by
  have hn := nodeB_yes (n := (k : Int) + 1) (by omega) (by omega)
  have hr : rightB ((k : Int) + 1) m = true := by unfold rightB; rw [hn]; simp; omega
  have hg : getN f ((k : Int) + 1) = f k := by unfold getN; rw [if_pos hn]; congr 1; omega
  unfold hasB; rw [hr, hg, Bool.true_and]
theorem sumK_upd (f : Nat → Nat) (k x : Nat) : ∀ n, sumK (fun i => if i = k then x else f i) n + (if k < n then f k else 0) = sumK f n + (if k < n then x else 0)
  | 0 => by simp [sumK]
  | n + 1 => by
    have ih := sumK_upd f k x n
    simp only [sumK]
    by_cases h : k = n
    · subst h
      rw [if_neg (by omega), if_neg (by omega)] at ih
      rw [if_pos rfl, if_pos (by omega), if_pos (by omega)]; omega
    · rw [if_neg (Ne.symm h)]
      by_cases h2 : k < n
      · rw [if_pos h2, if_pos h2] at ih
        rw [if_pos (by omega), if_pos (by omega)]; omega
      · rw [if_neg h2, if_neg h2] at ih
        rw [if_neg (by omega), if_neg (by omega)]; omega
theorem sumK_ext {f g : Nat → Nat} : ∀ n, (∀ i, i < n → f i = g i) → sumK f n = sumK g n
  | 0, _ => rfl
  | n + 1, h => by simp only [sumK]; rw [sumK_ext n (fun i hi => h i (by omega)), h n (by omega)]
theorem withF_at {f : Nat → Nat} {k : Nat} (hk : k < 12) (hc : f k < 1048576) (i : Nat) : withF f ((k : Int) + 1) (f k + 1) i = if i = k then f k + 1 else f i := by
  have hnb := nodeB_yes (n := (k : Int) + 1) (by omega) (by omega)
  have hr : rightB ((k : Int) + 1) (f k + 1) = true := by unfold rightB; rw [hnb]; simp; omega
  unfold withF
  rw [hr, Bool.true_and]
  by_cases h : i = k
  · subst h; simp
  · rw [if_neg (by simp; omega), if_neg h]
theorem ordI_next {f : Nat → Nat} {k : Nat} (hk : k < 12) (hc : f k < 1048576) : ordI (withF f ((k : Int) + 1) (f k + 1)) f = 1 := by
  have hw := withF_at hk hc
  have c1 : covB (withF f ((k : Int) + 1) (f k + 1)) f = true := (covB_iff _ _).2 fun i _ => by
    rw [hw i]
    by_cases h : i = k
    · subst h; rw [if_pos rfl]; omega
    · rw [if_neg h]; exact Nat.le_refl _
  have c2 : covB f (withF f ((k : Int) + 1) (f k + 1)) = false := by
    cases h : covB f (withF f ((k : Int) + 1) (f k + 1)) with
    | false => rfl
    | true => have := (covB_iff _ _).1 h k hk; rw [hw k, if_pos rfl] at this; omega
  unfold ordI; rw [c1, c2]; rfl
theorem sumK_next {f : Nat → Nat} {k : Nat} (hk : k < 12) (hc : f k < 1048576) : sumK (withF f ((k : Int) + 1) (f k + 1)) 12 = sumK f 12 + 1 := by
  rw [sumK_ext 12 (fun i _ => withF_at hk hc i)]
  have := sumK_upd f k (f k + 1) 12
  rw [if_pos hk, if_pos hk] at this; omega
end Go.Proofs.Ytbnapbjmffajfaa

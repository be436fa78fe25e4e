/-
clock.Covers, Order, Has, Next, Count.
clock.Order, Next, Count.
What comes of the next dot: of vectors alone.
-/
import Derived.Test.YtkigaclcmodjaaaGreatFill
import Derived.Test.YtkigaclcmodjaaaGreatPlan
namespace Go.Proofs.YtkigaclcmodjaaaGreat
open Go.RowKit

theorem join_two (f g : Nat → Nat) : ∀ i, i < 12 → joinL [f, g] i = max (f i) (g i) := by
  intro i _
  show max (max 0 (f i)) (g i) = _
  omega
theorem cov_join (f g : Nat → Nat) : eqB (joinL [f, g]) f = covB f g := by
  rw [Bool.eq_iff_iff, eqB_iff, covB_iff]
  refine ⟨fun h i hi => ?_, fun h i hi => ?_⟩
  · have := h i hi; rw [join_two f g i hi] at this; omega
  · rw [join_two f g i hi]; have := h i hi; omega

theorem hasB_yes {f : Nat → Nat} {n : Int} {m : Nat} (h : rightB n m = true) : hasB f n m = decide (((getN f n : Nat) : Int) ≥ (m : Int)) := by
  unfold hasB; rw [h, Bool.true_and]; exact decide_eq_decide.2 (by omega)
theorem hasB_no {f : Nat → Nat} {n : Int} {m : Nat} (h : rightB n m = false) : hasB f n m = false := by
  unfold hasB; rw [h, Bool.false_and]

end Go.Proofs.YtkigaclcmodjaaaGreat
namespace Go.Proofs.YtkigaclcmodjaaaGreat
open Go.RowKit

def ordC (a b : Bool) : Int := if a then (if b then 0 else 1) else (if b then -1 else 2)
theorem eqB_cov (f g : Nat → Nat) : eqB f g = (covB f g && covB g f) := by
  rw [Bool.eq_iff_iff, Bool.and_eq_true, eqB_iff, covB_iff, covB_iff]
  refine ⟨fun h => ⟨fun i hi => by rw [h i hi]; exact Nat.le_refl _, fun i hi => by rw [h i hi]; exact Nat.le_refl _⟩, fun ⟨h1, h2⟩ i hi => by have := h1 i hi; have := h2 i hi; omega⟩
theorem ret_i64 {a b : Int} (h : a = b) : Ending.returned (.int .i64 a) = .returned (.int .i64 b) := by rw [h]

set_option maxHeartbeats 1000000 in
set_option maxRecDepth 20000 in
theorem next_any (f : Nat → Nat) (n : Int) (w : World) :
    Calls Tryz.prog 96 #[.agg (vl f).toArray, .int .i64 n] w fun e w' => e = .returned (.tuple #[.agg #[.int .i64 (nextD f n).1, .int .u32 ((nextD f n).2.1 : Nat)], .int .i64 (nextD f n).2.2]) ∧ Below w.heap.size w w' := by
  by_cases hn : nodeB n = true
  · have H0 := Lib.hid (show nextD f n = if getN f n < 1048576 then (n, getN f n + 1, 0) else (0, 0, 5) by unfold nextD; rw [if_pos hn])
    have hG := get_any f n
    obtain ⟨c, hcn⟩ : ∃ c, c = getN f n := ⟨_, rfl⟩
    rw [← hcn] at H0 hG
    clear hcn
    have HG := Lib.hid hG
    clear hG
    by_cases hg : c < 1048576
    · have hg' : decide (1048576 ≤ (c : Int)) = false := by simp; omega
      have hg2 : (c : Int) < 1048576 := by omega
      have H := Lib.hid (H0.out.trans (if_pos hg))
      clear hg H0
      go_enter Tryz.func96, Tryz.ntmps96
      go_wp2_with (first | (first | (refine wpList_load_blk rfl 25 _ rfl _ rfl 25 (vl ?_).toArray _ ?_ Tryz.underlying25 rfl (vinfo _) ?_; rotate_left; (focus ((first | assumption | ((repeat' (first | assumption | ((with_reducible refine Blk.new' ?_); (first | rfl | (simp; done))) | ((with_reducible refine Blk.newRow ?_); (first | rfl | (simp; done))) | ((with_reducible refine Blk.farRow ?_ ?_ _); rotate_left; (first | (simp; done) | (simp; omega) | omega)) | (with_reducible refine Blk.alloc ?_ _) | (with_reducible refine Blk.drew ?_) | ((with_reducible refine Blk.far ?_ ?_ _); rotate_left; (first | (simp; done) | (simp; omega) | omega)) | (with_reducible refine Blk.next' (by assumption) ?_))); done))))) | (refine wpList_store_blk rfl 25 _ _ rfl _ 25 ?_ (vl _).toArray rfl rfl ?_ (vinfo _) ?_ (vl_all _) ?_; rotate_left; (focus ((first | assumption | ((repeat' (first | assumption | ((with_reducible refine Blk.new' ?_); (first | rfl | (simp; done))) | ((with_reducible refine Blk.newRow ?_); (first | rfl | (simp; done))) | ((with_reducible refine Blk.farRow ?_ ?_ _); rotate_left; (first | (simp; done) | (simp; omega) | omega)) | (with_reducible refine Blk.alloc ?_ _) | (with_reducible refine Blk.drew ?_) | ((with_reducible refine Blk.far ?_ ?_ _); rotate_left; (first | (simp; done) | (simp; omega) | omega)) | (with_reducible refine Blk.next' (by assumption) ?_))); done)))); (focus (first | exact (vl_size _).trans (vl_size _).symm | exact (vl_size _).symm)); intro _hrow)) | ((go_at_call 110; refine (node_any _ _).mono ?_; rintro e w' ⟨rfl, rfl⟩); rw [hn]) | (go_at_call 111; refine (HG.out _).mono ?_; rintro e w' ⟨rfl, hb⟩; obtain ⟨hc, hf⟩ := bcell hb))
      refine bodyPost_ret (v := .tuple #[.agg #[.int .i64 n, .int .u32 (((c + 1 : Nat)) : Int)], .int .i64 0]) (by simp [results, Tryz.results96, go_sem, hc]) rfl ⟨by rw [H.out], by (repeat' (first | exact Below.refl _ _ | assumption | (with_reducible refine below_alloc' ?_) | (with_reducible refine Below.drew ?_) | (with_reducible refine below_next' (by assumption) ?_) | (with_reducible refine below_setRow ?_ ?_ _) | (with_reducible refine Below.setCell ?_ ?_ _) | (with_reducible refine below_next (by assumption) ?_ ?_) | (with_reducible refine Below.alloc ?_ ?_ _) | exact Nat.le_refl _ | (exact below_size (by assumption)) | (with_reducible refine size_alloc ?_) | (with_reducible refine size_setRow' ?_) | (with_reducible refine size_setCell' ?_) | (with_reducible refine size_next (by assumption) ?_) | omega | (simp; done) | (simp; omega)))⟩
    · have hg' : decide (1048576 ≤ (c : Int)) = true := by simp; omega
      have H := Lib.hid (H0.out.trans (if_neg hg))
      clear hg H0
      go_enter Tryz.func96, Tryz.ntmps96
      go_wp2_with (first | (first | (refine wpList_load_blk rfl 25 _ rfl _ rfl 25 (vl ?_).toArray _ ?_ Tryz.underlying25 rfl (vinfo _) ?_; rotate_left; (focus ((first | assumption | ((repeat' (first | assumption | ((with_reducible refine Blk.new' ?_); (first | rfl | (simp; done))) | ((with_reducible refine Blk.newRow ?_); (first | rfl | (simp; done))) | ((with_reducible refine Blk.farRow ?_ ?_ _); rotate_left; (first | (simp; done) | (simp; omega) | omega)) | (with_reducible refine Blk.alloc ?_ _) | (with_reducible refine Blk.drew ?_) | ((with_reducible refine Blk.far ?_ ?_ _); rotate_left; (first | (simp; done) | (simp; omega) | omega)) | (with_reducible refine Blk.next' (by assumption) ?_))); done))))) | (refine wpList_store_blk rfl 25 _ _ rfl _ 25 ?_ (vl _).toArray rfl rfl ?_ (vinfo _) ?_ (vl_all _) ?_; rotate_left; (focus ((first | assumption | ((repeat' (first | assumption | ((with_reducible refine Blk.new' ?_); (first | rfl | (simp; done))) | ((with_reducible refine Blk.newRow ?_); (first | rfl | (simp; done))) | ((with_reducible refine Blk.farRow ?_ ?_ _); rotate_left; (first | (simp; done) | (simp; omega) | omega)) | (with_reducible refine Blk.alloc ?_ _) | (with_reducible refine Blk.drew ?_) | ((with_reducible refine Blk.far ?_ ?_ _); rotate_left; (first | (simp; done) | (simp; omega) | omega)) | (with_reducible refine Blk.next' (by assumption) ?_))); done)))); (focus (first | exact (vl_size _).trans (vl_size _).symm | exact (vl_size _).symm)); intro _hrow)) | ((go_at_call 110; refine (node_any _ _).mono ?_; rintro e w' ⟨rfl, rfl⟩); rw [hn]) | (go_at_call 111; refine (HG.out _).mono ?_; rintro e w' ⟨rfl, hb⟩; obtain ⟨hc, hf⟩ := bcell hb))
      refine bodyPost_ret (v := .tuple #[.agg #[.int .i64 0, .int .u32 0], .int .i64 5]) (by simp [results, Tryz.results96, go_sem, hc]) rfl ⟨by rw [H.out]; rfl, by (repeat' (first | exact Below.refl _ _ | assumption | (with_reducible refine below_alloc' ?_) | (with_reducible refine Below.drew ?_) | (with_reducible refine below_next' (by assumption) ?_) | (with_reducible refine below_setRow ?_ ?_ _) | (with_reducible refine Below.setCell ?_ ?_ _) | (with_reducible refine below_next (by assumption) ?_ ?_) | (with_reducible refine Below.alloc ?_ ?_ _) | exact Nat.le_refl _ | (exact below_size (by assumption)) | (with_reducible refine size_alloc ?_) | (with_reducible refine size_setRow' ?_) | (with_reducible refine size_setCell' ?_) | (with_reducible refine size_next (by assumption) ?_) | omega | (simp; done) | (simp; omega)))⟩
  · have hn' : nodeB n = false := by simpa using hn
    have H := Lib.hid (show nextD f n = (0, 0, 11) by unfold nextD; rw [if_neg hn])
    clear hn
    go_enter Tryz.func96, Tryz.ntmps96
    go_wp2_with (first | (first | (refine wpList_load_blk rfl 25 _ rfl _ rfl 25 (vl ?_).toArray _ ?_ Tryz.underlying25 rfl (vinfo _) ?_; rotate_left; (focus ((first | assumption | ((repeat' (first | assumption | ((with_reducible refine Blk.new' ?_); (first | rfl | (simp; done))) | ((with_reducible refine Blk.newRow ?_); (first | rfl | (simp; done))) | ((with_reducible refine Blk.farRow ?_ ?_ _); rotate_left; (first | (simp; done) | (simp; omega) | omega)) | (with_reducible refine Blk.alloc ?_ _) | (with_reducible refine Blk.drew ?_) | ((with_reducible refine Blk.far ?_ ?_ _); rotate_left; (first | (simp; done) | (simp; omega) | omega)) | (with_reducible refine Blk.next' (by assumption) ?_))); done))))) | (refine wpList_store_blk rfl 25 _ _ rfl _ 25 ?_ (vl _).toArray rfl rfl ?_ (vinfo _) ?_ (vl_all _) ?_; rotate_left; (focus ((first | assumption | ((repeat' (first | assumption | ((with_reducible refine Blk.new' ?_); (first | rfl | (simp; done))) | ((with_reducible refine Blk.newRow ?_); (first | rfl | (simp; done))) | ((with_reducible refine Blk.farRow ?_ ?_ _); rotate_left; (first | (simp; done) | (simp; omega) | omega)) | (with_reducible refine Blk.alloc ?_ _) | (with_reducible refine Blk.drew ?_) | ((with_reducible refine Blk.far ?_ ?_ _); rotate_left; (first | (simp; done) | (simp; omega) | omega)) | (with_reducible refine Blk.next' (by assumption) ?_))); done)))); (focus (first | exact (vl_size _).trans (vl_size _).symm | exact (vl_size _).symm)); intro _hrow)) | ((go_at_call 110; refine (node_any _ _).mono ?_; rintro e w' ⟨rfl, rfl⟩); rw [hn']))
    refine bodyPost_ret (v := .tuple #[.agg #[.int .i64 0, .int .u32 0], .int .i64 11]) (by simp [results, Tryz.results96, go_sem]) rfl ⟨by rw [H.out]; rfl, by (repeat' (first | exact Below.refl _ _ | assumption | (with_reducible refine below_alloc' ?_) | (with_reducible refine Below.drew ?_) | (with_reducible refine below_next' (by assumption) ?_) | (with_reducible refine below_setRow ?_ ?_ _) | (with_reducible refine Below.setCell ?_ ?_ _) | (with_reducible refine below_next (by assumption) ?_ ?_) | (with_reducible refine Below.alloc ?_ ?_ _) | exact Nat.le_refl _ | (exact below_size (by assumption)) | (with_reducible refine size_alloc ?_) | (with_reducible refine size_setRow' ?_) | (with_reducible refine size_setCell' ?_) | (with_reducible refine size_next (by assumption) ?_) | omega | (simp; done) | (simp; omega)))⟩

theorem sumK_le {f : Nat → Nat} (hf : ∀ i, f i < 4294967296) : ∀ k, sumK f k ≤ k * 4294967295
  | 0 => Nat.le_refl _
  | k + 1 => by have := sumK_le hf k; have := hf k; unfold sumK; omega
def Far (f : Nat → Nat) (k : Nat) (x : Value) : Prop := x = .int .u64 (sumK f k : Nat)

end Go.Proofs.YtkigaclcmodjaaaGreat
namespace Go.Proofs.YtkigaclcmodjaaaGreat
theorem hasB_at {f : Nat → Nat} {k m : Nat} (hk : k < 12) (h1 : 1 ≤ m) (h2 : m ≤ 1048576) : hasB f ((k : Int) + 1) m = decide (m ≤ f k) := by
  have hn := nodeB_yes (n := (k : Int) + 1) (by omega) (by omega)
  have hr : rightB ((k : Int) + 1) m = true := by unfold rightB; rw [hn]; simp; omega
  have hg : getN f ((k : Int) + 1) = f k := by unfold getN; rw [if_pos hn]; congr 1; omega
  unfold hasB; rw [hr, hg, Bool.true_and]
theorem sumK_upd (f : Nat → Nat) (k x : Nat) : ∀ n, sumK (fun i => if i = k then x else f i) n + (if k < n then f k else 0) = sumK f n + (if k < n then x else 0)
  | 0 => by simp [sumK]
  | n + 1 => by
    have ih := sumK_upd f k x n
    simp only [sumK]
    by_cases h : k = n
    · subst h
      rw [if_neg (by omega), if_neg (by omega)] at ih
      rw [if_pos rfl, if_pos (by omega), if_pos (by omega)]; omega
    · rw [if_neg (Ne.symm h)]
      by_cases h2 : k < n
      · rw [if_pos h2, if_pos h2] at ih
        rw [if_pos (by omega), if_pos (by omega)]; omega
      · rw [if_neg h2, if_neg h2] at ih
        rw [if_neg (by omega), if_neg (by omega)]; omega
theorem sumK_ext {f g : Nat → Nat} : ∀ n, (∀ i, i < n → f i = g i) → sumK f n = sumK g n
  | 0, _ => rfl
  | n + 1, h => by simp only [sumK]; rw [sumK_ext n (fun i hi => h i (by omega)), h n (by omega)]
theorem withF_at {f : Nat → Nat} {k : Nat} (hk : k < 12) (hc : f k < 1048576) (i : Nat) : withF f ((k : Int) + 1) (f k + 1) i = if i = k then f k + 1 else f i := by
  have hnb := nodeB_yes (n := (k : Int) + 1) (by omega) (by omega)
  have hr : rightB ((k : Int) + 1) (f k + 1) = true := by unfold rightB; rw [hnb]; simp; omega
  unfold withF
  rw [hr, Bool.true_and]
  by_cases h : i = k
  · subst h; simp
  · rw [if_neg (by simp; omega), if_neg h]
theorem ordI_next {f : Nat → Nat} {k : Nat} (hk : k < 12) (hc : f k < 1048576) : ordI (withF f ((k : Int) + 1) (f k + 1)) f = 1 := by
  have hw := withF_at hk hc
  have c1 : covB (withF f ((k : Int) + 1) (f k + 1)) f = true := (covB_iff _ _).2 fun i _ => by
    rw [hw i]
    by_cases h : i = k
    · subst h; rw [if_pos rfl]; omega
    · rw [if_neg h]; exact Nat.le_refl _
  have c2 : covB f (withF f ((k : Int) + 1) (f k + 1)) = false := by
    cases h : covB f (withF f ((k : Int) + 1) (f k + 1)) with
    | false => rfl
    | true => have := (covB_iff _ _).1 h k hk; rw [hw k, if_pos rfl] at this; omega
  unfold ordI; rw [c1, c2]; rfl
theorem sumK_next {f : Nat → Nat} {k : Nat} (hk : k < 12) (hc : f k < 1048576) : sumK (withF f ((k : Int) + 1) (f k + 1)) 12 = sumK f 12 + 1 := by
  rw [sumK_ext 12 (fun i _ => withF_at hk hc i)]
  have := sumK_upd f k (f k + 1) 12
  rw [if_pos hk, if_pos hk] at this; omega
end Go.Proofs.YtkigaclcmodjaaaGreat

/-
clock.Order, Next, Count.
-/
import Derived.Test.YtjloendkkmkhhaaCalls4
namespace Go.Proofs.Ytjloendkkmkhhaa
open Go.RowKit

def ordC (a b : Bool) : Int := if a then (if b then 0 else 1) else (if b then -1 else 2)
theorem eqB_cov (f g : Nat → Nat) : eqB f g = (covB f g && covB g f) := by
  rw [Bool.eq_iff_iff, Bool.and_eq_true, eqB_iff, covB_iff, covB_iff]
  refine ⟨fun h => ⟨fun i hi => by rw [h i hi]; exact Nat.le_refl _, fun i hi => by rw [h i hi]; exact Nat.le_refl _⟩, fun ⟨h1, h2⟩ i hi => by have := h1 i hi; have := h2 i hi; omega⟩
theorem ret_i64 {a b : Int} (h : a = b) : Ending.returned (.int .i64 a) = .returned (.int .i64 b) := by rw [h]

set_option maxHeartbeats 1000000 in
theorem order_any (f g : Nat → Nat) (w : World) :
    Calls Try.prog 28 #[.agg (vl f).toArray, .agg (vl g).toArray] w fun e w' => e = .returned (.int .i64 (ordI f g)) ∧ Below w.heap.size w w' := by
  have hq := eqB_cov f g
  have hc1 : covB f g = true ∨ covB f g = false := by cases covB f g <;> simp
  have hc2 : covB g f = true ∨ covB g f = false := by cases covB g f <;> simp
  have HO := Lib.hid (show ordI f g = ordC (covB f g) (covB g f) from rfl)
  have heq : ∀ w, (Op.equalIn 10000 24 (.agg (vl f).toArray) (.agg (vl g).toArray)).run Try.prog w = .ok (eqB f g) w := run_equalIn_vec 9998 f g
  rw [hq] at heq
  clear hq
  rcases hc1 with h1 | h1
  all_goals rcases hc2 with h2 | h2
  all_goals
    rw [h1, h2] at heq HO
    go_enter Try.func28, Try.ntmps28
    go_wp2_with (first | (first | (refine wpList_load_blk rfl 24 _ rfl _ rfl 24 (vl ?_).toArray _ ?_ Try.underlying24 rfl (vinfo _) ?_; rotate_left; (focus ((first | assumption | ((repeat' (first | assumption | ((with_reducible refine Blk.new' ?_); (first | rfl | (simp; done))) | ((with_reducible refine Blk.newRow ?_); (first | rfl | (simp; done))) | ((with_reducible refine Blk.farRow ?_ ?_ _); rotate_left; (first | (simp; done) | (simp; omega) | omega)) | (with_reducible refine Blk.alloc ?_ _) | (with_reducible refine Blk.drew ?_) | ((with_reducible refine Blk.far ?_ ?_ _); rotate_left; (first | (simp; done) | (simp; omega) | omega)) | (with_reducible refine Blk.next' (by assumption) ?_))); done))))) | (refine wpList_store_blk rfl 24 _ _ rfl _ 24 ?_ (vl _).toArray rfl rfl ?_ (vinfo _) ?_ (vl_all _) ?_; rotate_left; (focus ((first | assumption | ((repeat' (first | assumption | ((with_reducible refine Blk.new' ?_); (first | rfl | (simp; done))) | ((with_reducible refine Blk.newRow ?_); (first | rfl | (simp; done))) | ((with_reducible refine Blk.farRow ?_ ?_ _); rotate_left; (first | (simp; done) | (simp; omega) | omega)) | (with_reducible refine Blk.alloc ?_ _) | (with_reducible refine Blk.drew ?_) | ((with_reducible refine Blk.far ?_ ?_ _); rotate_left; (first | (simp; done) | (simp; omega) | omega)) | (with_reducible refine Blk.next' (by assumption) ?_))); done)))); (focus (first | exact (vl_size _).trans (vl_size _).symm | exact (vl_size _).symm)); intro _hrow)) | ((go_at_call 22; refine (covers_any _ _ _).mono ?_; rintro e w' ⟨rfl, hb⟩); (first | rw [h1] | rw [h2])))
    go_ret
    exact ⟨ret_i64 HO.out.symm, by (repeat' (first | exact Below.refl _ _ | assumption | (with_reducible refine below_alloc' ?_) | (with_reducible refine Below.drew ?_) | (with_reducible refine below_next' (by assumption) ?_) | (with_reducible refine below_setRow ?_ ?_ _) | (with_reducible refine Below.setCell ?_ ?_ _) | (with_reducible refine below_next (by assumption) ?_ ?_) | (with_reducible refine Below.alloc ?_ ?_ _) | exact Nat.le_refl _ | (exact below_size (by assumption)) | (with_reducible refine size_alloc ?_) | (with_reducible refine size_setRow' ?_) | (with_reducible refine size_setCell' ?_) | (with_reducible refine size_next (by assumption) ?_) | omega | (simp; done) | (simp; omega)))⟩

set_option maxHeartbeats 1000000 in
theorem next_any (f : Nat → Nat) (n : Int) (w : World) :
    Calls Try.prog 9 #[.agg (vl f).toArray, .int .i64 n] w fun e w' => e = .returned (.tuple #[.agg #[.int .i64 (nextD f n).1, .int .u32 ((nextD f n).2.1 : Nat)], .int .i64 (nextD f n).2.2]) ∧ Below w.heap.size w w' := by
  by_cases hn : nodeB n = true
  · have H0 := Lib.hid (show nextD f n = if getN f n < 1048576 then (n, getN f n + 1, 0) else (0, 0, 5) by unfold nextD; rw [if_pos hn])
    have hG := get_any f n
    obtain ⟨c, hcn⟩ : ∃ c, c = getN f n := ⟨_, rfl⟩
    rw [← hcn] at H0 hG
    clear hcn
    have HG := Lib.hid hG
    clear hG
    by_cases hg : c < 1048576
    · have hg' : decide (1048576 ≤ (c : Int)) = false := by simp; omega
      have hg2 : (c : Int) < 1048576 := by omega
      have H := Lib.hid (H0.out.trans (if_pos hg))
      clear hg H0
      go_enter Try.func9, Try.ntmps9
      go_wp2_with (first | (first | (refine wpList_load_blk rfl 24 _ rfl _ rfl 24 (vl ?_).toArray _ ?_ Try.underlying24 rfl (vinfo _) ?_; rotate_left; (focus ((first | assumption | ((repeat' (first | assumption | ((with_reducible refine Blk.new' ?_); (first | rfl | (simp; done))) | ((with_reducible refine Blk.newRow ?_); (first | rfl | (simp; done))) | ((with_reducible refine Blk.farRow ?_ ?_ _); rotate_left; (first | (simp; done) | (simp; omega) | omega)) | (with_reducible refine Blk.alloc ?_ _) | (with_reducible refine Blk.drew ?_) | ((with_reducible refine Blk.far ?_ ?_ _); rotate_left; (first | (simp; done) | (simp; omega) | omega)) | (with_reducible refine Blk.next' (by assumption) ?_))); done))))) | (refine wpList_store_blk rfl 24 _ _ rfl _ 24 ?_ (vl _).toArray rfl rfl ?_ (vinfo _) ?_ (vl_all _) ?_; rotate_left; (focus ((first | assumption | ((repeat' (first | assumption | ((with_reducible refine Blk.new' ?_); (first | rfl | (simp; done))) | ((with_reducible refine Blk.newRow ?_); (first | rfl | (simp; done))) | ((with_reducible refine Blk.farRow ?_ ?_ _); rotate_left; (first | (simp; done) | (simp; omega) | omega)) | (with_reducible refine Blk.alloc ?_ _) | (with_reducible refine Blk.drew ?_) | ((with_reducible refine Blk.far ?_ ?_ _); rotate_left; (first | (simp; done) | (simp; omega) | omega)) | (with_reducible refine Blk.next' (by assumption) ?_))); done)))); (focus (first | exact (vl_size _).trans (vl_size _).symm | exact (vl_size _).symm)); intro _hrow)) | ((go_at_call 30; refine (node_any _ _).mono ?_; rintro e w' ⟨rfl, rfl⟩); rw [hn]) | (go_at_call 13; refine (HG.out _).mono ?_; rintro e w' ⟨rfl, hb⟩; obtain ⟨hc, hf⟩ := bcell hb))
      refine bodyPost_ret (v := .tuple #[.agg #[.int .i64 n, .int .u32 (((c + 1 : Nat)) : Int)], .int .i64 0]) (by simp [results, Try.results9, go_sem, hc]) rfl ⟨by rw [H.out], by (repeat' (first | exact Below.refl _ _ | assumption | (with_reducible refine below_alloc' ?_) | (with_reducible refine Below.drew ?_) | (with_reducible refine below_next' (by assumption) ?_) | (with_reducible refine below_setRow ?_ ?_ _) | (with_reducible refine Below.setCell ?_ ?_ _) | (with_reducible refine below_next (by assumption) ?_ ?_) | (with_reducible refine Below.alloc ?_ ?_ _) | exact Nat.le_refl _ | (exact below_size (by assumption)) | (with_reducible refine size_alloc ?_) | (with_reducible refine size_setRow' ?_) | (with_reducible refine size_setCell' ?_) | (with_reducible refine size_next (by assumption) ?_) | omega | (simp; done) | (simp; omega)))⟩
    · have hg' : decide (1048576 ≤ (c : Int)) = true := by simp; omega
      have H := Lib.hid (H0.out.trans (if_neg hg))
      clear hg H0
      go_enter Try.func9, Try.ntmps9
      go_wp2_with (first | (first | (refine wpList_load_blk rfl 24 _ rfl _ rfl 24 (vl ?_).toArray _ ?_ Try.underlying24 rfl (vinfo _) ?_; rotate_left; (focus ((first | assumption | ((repeat' (first | assumption | ((with_reducible refine Blk.new' ?_); (first | rfl | (simp; done))) | ((with_reducible refine Blk.newRow ?_); (first | rfl | (simp; done))) | ((with_reducible refine Blk.farRow ?_ ?_ _); rotate_left; (first | (simp; done) | (simp; omega) | omega)) | (with_reducible refine Blk.alloc ?_ _) | (with_reducible refine Blk.drew ?_) | ((with_reducible refine Blk.far ?_ ?_ _); rotate_left; (first | (simp; done) | (simp; omega) | omega)) | (with_reducible refine Blk.next' (by assumption) ?_))); done))))) | (refine wpList_store_blk rfl 24 _ _ rfl _ 24 ?_ (vl _).toArray rfl rfl ?_ (vinfo _) ?_ (vl_all _) ?_; rotate_left; (focus ((first | assumption | ((repeat' (first | assumption | ((with_reducible refine Blk.new' ?_); (first | rfl | (simp; done))) | ((with_reducible refine Blk.newRow ?_); (first | rfl | (simp; done))) | ((with_reducible refine Blk.farRow ?_ ?_ _); rotate_left; (first | (simp; done) | (simp; omega) | omega)) | (with_reducible refine Blk.alloc ?_ _) | (with_reducible refine Blk.drew ?_) | ((with_reducible refine Blk.far ?_ ?_ _); rotate_left; (first | (simp; done) | (simp; omega) | omega)) | (with_reducible refine Blk.next' (by assumption) ?_))); done)))); (focus (first | exact (vl_size _).trans (vl_size _).symm | exact (vl_size _).symm)); intro _hrow)) | ((go_at_call 30; refine (node_any _ _).mono ?_; rintro e w' ⟨rfl, rfl⟩); rw [hn]) | (go_at_call 13; refine (HG.out _).mono ?_; rintro e w' ⟨rfl, hb⟩; obtain ⟨hc, hf⟩ := bcell hb))
      refine bodyPost_ret (v := .tuple #[.agg #[.int .i64 0, .int .u32 0], .int .i64 5]) (by simp [results, Try.results9, go_sem, hc]) rfl ⟨by rw [H.out]; rfl, by (repeat' (first | exact Below.refl _ _ | assumption | (with_reducible refine below_alloc' ?_) | (with_reducible refine Below.drew ?_) | (with_reducible refine below_next' (by assumption) ?_) | (with_reducible refine below_setRow ?_ ?_ _) | (with_reducible refine Below.setCell ?_ ?_ _) | (with_reducible refine below_next (by assumption) ?_ ?_) | (with_reducible refine Below.alloc ?_ ?_ _) | exact Nat.le_refl _ | (exact below_size (by assumption)) | (with_reducible refine size_alloc ?_) | (with_reducible refine size_setRow' ?_) | (with_reducible refine size_setCell' ?_) | (with_reducible refine size_next (by assumption) ?_) | omega | (simp; done) | (simp; omega)))⟩
  · have hn' : nodeB n = false := by simpa using hn
    have H := Lib.hid (show nextD f n = (0, 0, 11) by unfold nextD; rw [if_neg hn])
    clear hn
    go_enter Try.func9, Try.ntmps9
    go_wp2_with (first | (first | (refine wpList_load_blk rfl 24 _ rfl _ rfl 24 (vl ?_).toArray _ ?_ Try.underlying24 rfl (vinfo _) ?_; rotate_left; (focus ((first | assumption | ((repeat' (first | assumption | ((with_reducible refine Blk.new' ?_); (first | rfl | (simp; done))) | ((with_reducible refine Blk.newRow ?_); (first | rfl | (simp; done))) | ((with_reducible refine Blk.farRow ?_ ?_ _); rotate_left; (first | (simp; done) | (simp; omega) | omega)) | (with_reducible refine Blk.alloc ?_ _) | (with_reducible refine Blk.drew ?_) | ((with_reducible refine Blk.far ?_ ?_ _); rotate_left; (first | (simp; done) | (simp; omega) | omega)) | (with_reducible refine Blk.next' (by assumption) ?_))); done))))) | (refine wpList_store_blk rfl 24 _ _ rfl _ 24 ?_ (vl _).toArray rfl rfl ?_ (vinfo _) ?_ (vl_all _) ?_; rotate_left; (focus ((first | assumption | ((repeat' (first | assumption | ((with_reducible refine Blk.new' ?_); (first | rfl | (simp; done))) | ((with_reducible refine Blk.newRow ?_); (first | rfl | (simp; done))) | ((with_reducible refine Blk.farRow ?_ ?_ _); rotate_left; (first | (simp; done) | (simp; omega) | omega)) | (with_reducible refine Blk.alloc ?_ _) | (with_reducible refine Blk.drew ?_) | ((with_reducible refine Blk.far ?_ ?_ _); rotate_left; (first | (simp; done) | (simp; omega) | omega)) | (with_reducible refine Blk.next' (by assumption) ?_))); done)))); (focus (first | exact (vl_size _).trans (vl_size _).symm | exact (vl_size _).symm)); intro _hrow)) | ((go_at_call 30; refine (node_any _ _).mono ?_; rintro e w' ⟨rfl, rfl⟩); rw [hn']))
    refine bodyPost_ret (v := .tuple #[.agg #[.int .i64 0, .int .u32 0], .int .i64 11]) (by simp [results, Try.results9, go_sem]) rfl ⟨by rw [H.out]; rfl, by (repeat' (first | exact Below.refl _ _ | assumption | (with_reducible refine below_alloc' ?_) | (with_reducible refine Below.drew ?_) | (with_reducible refine below_next' (by assumption) ?_) | (with_reducible refine below_setRow ?_ ?_ _) | (with_reducible refine Below.setCell ?_ ?_ _) | (with_reducible refine below_next (by assumption) ?_ ?_) | (with_reducible refine Below.alloc ?_ ?_ _) | exact Nat.le_refl _ | (exact below_size (by assumption)) | (with_reducible refine size_alloc ?_) | (with_reducible refine size_setRow' ?_) | (with_reducible refine size_setCell' ?_) | (with_reducible refine size_next (by assumption) ?_) | omega | (simp; done) | (simp; omega)))⟩

theorem sumK_le {f : Nat → Nat} (hf : ∀ i, f i < 4294967296) : ∀ k, sumK f k ≤ k * 4294967295
  | 0 => Nat.le_refl _
  | k + 1 => by have := sumK_le hf k; have := hf k; unfold sumK; omega
def Far (f : Nat → Nat) (k : Nat) (x : Value) : Prop := x = .int .u64 (sumK f k : Nat)

set_option maxHeartbeats 1000000 in
theorem count_any (f : Nat → Nat) (w : World) (hf : ∀ i, f i < 4294967296) :
    Calls Try.prog 26 #[.agg (vl f).toArray] w fun e w' => e = .returned (.int .u64 (sumK f 12 : Nat)) ∧ Below w.heap.size w w' := by
  have HF := Lib.hid hf
  clear hf
  go_enter Try.func26, Try.ntmps26
  go_wp2_with (first | (refine wpList_load_blk rfl 24 _ rfl _ rfl 24 (vl ?_).toArray _ ?_ Try.underlying24 rfl (vinfo _) ?_; rotate_left; (focus ((first | assumption | ((repeat' (first | assumption | ((with_reducible refine Blk.new' ?_); (first | rfl | (simp; done))) | ((with_reducible refine Blk.newRow ?_); (first | rfl | (simp; done))) | ((with_reducible refine Blk.farRow ?_ ?_ _); rotate_left; (first | (simp; done) | (simp; omega) | omega)) | (with_reducible refine Blk.alloc ?_ _) | (with_reducible refine Blk.drew ?_) | ((with_reducible refine Blk.far ?_ ?_ _); rotate_left; (first | (simp; done) | (simp; omega) | omega)) | (with_reducible refine Blk.next' (by assumption) ?_))); done))))) | (refine wpList_store_blk rfl 24 _ _ rfl _ 24 ?_ (vl _).toArray rfl rfl ?_ (vinfo _) ?_ (vl_all _) ?_; rotate_left; (focus ((first | assumption | ((repeat' (first | assumption | ((with_reducible refine Blk.new' ?_); (first | rfl | (simp; done))) | ((with_reducible refine Blk.newRow ?_); (first | rfl | (simp; done))) | ((with_reducible refine Blk.farRow ?_ ?_ _); rotate_left; (first | (simp; done) | (simp; omega) | omega)) | (with_reducible refine Blk.alloc ?_ _) | (with_reducible refine Blk.drew ?_) | ((with_reducible refine Blk.far ?_ ?_ _); rotate_left; (first | (simp; done) | (simp; omega) | omega)) | (with_reducible refine Blk.next' (by assumption) ?_))); done)))); (focus (first | exact (vl_size _).trans (vl_size _).symm | exact (vl_size _).symm)); intro _hrow))
  go_loop [3, 7] (fun x i => ∃ k : Nat, k ≤ 12 ∧ i = .int .i64 k ∧ Far f k x) (fun _ i => 12 - (intOf i).toNat)
  case atStart => exact ⟨0, Nat.zero_le _, rfl, rfl⟩
  case round =>
    obtain ⟨k, hk, rfl, hx⟩ := hrel
    unfold Far at hx
    subst hx
    have hs := sumK_le HF.out k
    by_cases hlt : k < 12
    · have h1 : (k : Int) < 12 := by omega
      have hs' : ((sumK f k : Nat) : Int) ≤ 51539607540 := by omega
      have hd' : ((f k : Nat) : Int) ≤ 4294967295 := by have := HF.out k; omega
      have c2 := run_index_vec f hlt
      clear hs
      go_wp2_with fail
      go_round
      case rel => exact ⟨k + 1, by omega, by go_num, by unfold Far; rw [sumK]; go_num⟩
      case measure => simp [intOf]; omega
    · obtain rfl : k = 12 := by omega
      clear hs
      go_wp2_with fail
      go_ret
      exact ⟨rfl, by (repeat' (first | exact Below.refl _ _ | assumption | (with_reducible refine below_alloc' ?_) | (with_reducible refine Below.drew ?_) | (with_reducible refine below_next' (by assumption) ?_) | (with_reducible refine below_setRow ?_ ?_ _) | (with_reducible refine Below.setCell ?_ ?_ _) | (with_reducible refine below_next (by assumption) ?_ ?_) | (with_reducible refine Below.alloc ?_ ?_ _) | exact Nat.le_refl _ | (exact below_size (by assumption)) | (with_reducible refine size_alloc ?_) | (with_reducible refine size_setRow' ?_) | (with_reducible refine size_setCell' ?_) | (with_reducible refine size_next (by assumption) ?_) | omega | (simp; done) | (simp; omega)))⟩
end Go.Proofs.Ytjloendkkmkhhaa

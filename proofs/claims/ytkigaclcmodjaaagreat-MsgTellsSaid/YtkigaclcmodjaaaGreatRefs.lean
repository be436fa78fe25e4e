/-
The document's own functions on vectors: each hands back what package clock does.
-/
import Derived.Test.YtkigaclcmodjaaaGreatCalls4
namespace Go.Proofs.YtkigaclcmodjaaaGreat
open Go.RowKit

set_option maxHeartbeats 400000 in
theorem rright_any (n : Int) (m : Nat) (w : World) : Calls Tryz.prog 75 #[.agg #[.int .i64 n, .int .u32 m]] w fun e w' => e = .returned (.bool (rightB n m)) ∧ Below w.heap.size w w' := by
  have H : Hid (rightB n m = (decide (0 < n) && (decide (n < 13) && (decide (0 < m) && decide (m ≤ 1048576))))) := Lib.hid (by
    unfold rightB
    cases hn : nodeB n with
    | true => obtain ⟨k, hk, rfl⟩ := node_of hn; rw [decide_eq_true (show (0 : Int) < (k : Int) + 1 by omega), decide_eq_true (show (k : Int) + 1 < 13 by omega)]; rfl
    | false =>
      have : ¬ (0 < n ∧ n < 13) := fun h => by rw [nodeB_yes (by omega) (by omega)] at hn; cases hn
      by_cases h : 0 < n
      · rw [decide_eq_false (show ¬ n < 13 by omega)]; simp
      · rw [decide_eq_false h]; simp)
  by_cases h1 : 0 < n
  · by_cases h2 : n < 13
    · by_cases h3 : 0 < m
      · have h3' : decide (0 < m) = true := decide_eq_true h3
        rw [decide_eq_true h1, decide_eq_true h2, decide_eq_true h3] at H
        clear h3
        go_enter Tryz.func75, Tryz.ntmps75
        go_wp2_with fail
        go_ret
        exact ⟨ret_bool (by rw [H.out]; exact decide_eq_decide.2 (by omega)), by (repeat' (first | exact Below.refl _ _ | assumption | (with_reducible refine below_alloc' ?_) | (with_reducible refine Below.drew ?_) | (with_reducible refine below_next' (by assumption) ?_) | (with_reducible refine below_setRow ?_ ?_ _) | (with_reducible refine Below.setCell ?_ ?_ _) | (with_reducible refine below_next (by assumption) ?_ ?_) | (with_reducible refine Below.alloc ?_ ?_ _) | exact Nat.le_refl _ | (exact below_size (by assumption)) | (with_reducible refine size_alloc ?_) | (with_reducible refine size_setRow' ?_) | (with_reducible refine size_setCell' ?_) | (with_reducible refine size_next (by assumption) ?_) | omega | (simp; done) | (simp; omega)))⟩
      · have h3' : decide (0 < m) = false := decide_eq_false h3
        rw [decide_eq_false h3] at H
        clear h3
        go_enter Tryz.func75, Tryz.ntmps75
        go_wp2_with fail
        go_ret
        exact ⟨ret_bool (by rw [H.out]; simp), by (repeat' (first | exact Below.refl _ _ | assumption | (with_reducible refine below_alloc' ?_) | (with_reducible refine Below.drew ?_) | (with_reducible refine below_next' (by assumption) ?_) | (with_reducible refine below_setRow ?_ ?_ _) | (with_reducible refine Below.setCell ?_ ?_ _) | (with_reducible refine below_next (by assumption) ?_ ?_) | (with_reducible refine Below.alloc ?_ ?_ _) | exact Nat.le_refl _ | (exact below_size (by assumption)) | (with_reducible refine size_alloc ?_) | (with_reducible refine size_setRow' ?_) | (with_reducible refine size_setCell' ?_) | (with_reducible refine size_next (by assumption) ?_) | omega | (simp; done) | (simp; omega)))⟩
    · rw [decide_eq_false h2] at H
      go_enter Tryz.func75, Tryz.ntmps75
      go_wp2_with fail
      go_ret
      exact ⟨ret_bool (by rw [H.out]; simp), by (repeat' (first | exact Below.refl _ _ | assumption | (with_reducible refine below_alloc' ?_) | (with_reducible refine Below.drew ?_) | (with_reducible refine below_next' (by assumption) ?_) | (with_reducible refine below_setRow ?_ ?_ _) | (with_reducible refine Below.setCell ?_ ?_ _) | (with_reducible refine below_next (by assumption) ?_ ?_) | (with_reducible refine Below.alloc ?_ ?_ _) | exact Nat.le_refl _ | (exact below_size (by assumption)) | (with_reducible refine size_alloc ?_) | (with_reducible refine size_setRow' ?_) | (with_reducible refine size_setCell' ?_) | (with_reducible refine size_next (by assumption) ?_) | omega | (simp; done) | (simp; omega)))⟩
  · rw [decide_eq_false h1] at H
    go_enter Tryz.func75, Tryz.ntmps75
    go_wp2_with fail
    go_ret
    exact ⟨ret_bool (by rw [H.out]; simp), by (repeat' (first | exact Below.refl _ _ | assumption | (with_reducible refine below_alloc' ?_) | (with_reducible refine Below.drew ?_) | (with_reducible refine below_next' (by assumption) ?_) | (with_reducible refine below_setRow ?_ ?_ _) | (with_reducible refine Below.setCell ?_ ?_ _) | (with_reducible refine below_next (by assumption) ?_ ?_) | (with_reducible refine Below.alloc ?_ ?_ _) | exact Nat.le_refl _ | (exact below_size (by assumption)) | (with_reducible refine size_alloc ?_) | (with_reducible refine size_setRow' ?_) | (with_reducible refine size_setCell' ?_) | (with_reducible refine size_next (by assumption) ?_) | omega | (simp; done) | (simp; omega)))⟩

set_option maxHeartbeats 1000000 in
theorem rget_any (f : Nat → Nat) (n : Int) (w : World) : Calls Tryz.prog 77 #[.agg (vl f).toArray, .int .i64 n] w fun e w' => e = .returned (.int .u32 (getN f n : Nat)) ∧ Below w.heap.size w w' := by
  go_enter Tryz.func77, Tryz.ntmps77
  go_wp2_with (first | (refine wpList_load_blk rfl 25 _ rfl _ rfl 25 (vl ?_).toArray _ ?_ Tryz.underlying25 rfl (vinfo _) ?_; rotate_left; (focus ((first | assumption | ((repeat' (first | assumption | ((with_reducible refine Blk.new' ?_); (first | rfl | (simp; done))) | ((with_reducible refine Blk.newRow ?_); (first | rfl | (simp; done))) | ((with_reducible refine Blk.farRow ?_ ?_ _); rotate_left; (first | (simp; done) | (simp; omega) | omega)) | (with_reducible refine Blk.alloc ?_ _) | (with_reducible refine Blk.drew ?_) | ((with_reducible refine Blk.far ?_ ?_ _); rotate_left; (first | (simp; done) | (simp; omega) | omega)) | (with_reducible refine Blk.next' (by assumption) ?_))); done))))) | (refine wpList_store_blk rfl 25 _ _ rfl _ 25 ?_ (vl _).toArray rfl rfl ?_ (vinfo _) ?_ (vl_all _) ?_; rotate_left; (focus ((first | assumption | ((repeat' (first | assumption | ((with_reducible refine Blk.new' ?_); (first | rfl | (simp; done))) | ((with_reducible refine Blk.newRow ?_); (first | rfl | (simp; done))) | ((with_reducible refine Blk.farRow ?_ ?_ _); rotate_left; (first | (simp; done) | (simp; omega) | omega)) | (with_reducible refine Blk.alloc ?_ _) | (with_reducible refine Blk.drew ?_) | ((with_reducible refine Blk.far ?_ ?_ _); rotate_left; (first | (simp; done) | (simp; omega) | omega)) | (with_reducible refine Blk.next' (by assumption) ?_))); done)))); (focus (first | exact (vl_size _).trans (vl_size _).symm | exact (vl_size _).symm)); intro _hrow))
  go_loop [5] (fun i => ∃ k : Nat, k ≤ 12 ∧ i = .int .i64 k ∧ ¬ (1 ≤ n ∧ n ≤ k)) (fun i => 12 - (intOf i).toNat)
  case atStart => exact ⟨0, Nat.zero_le _, rfl, by omega⟩
  case round =>
    obtain ⟨k, hk, rfl, hno⟩ := hrel
    by_cases hlt : k < 12
    · have h1 : (k : Int) < 12 := by omega
      have c1 := vl_get (f := f) hlt
      by_cases he : n = (k : Int) + 1
      · have H := Lib.hid (show getN f n = f k by unfold getN; rw [if_pos (nodeB_yes (by omega) (by omega))]; congr 1; omega)
        have he' : (((k : Int) + 1 == n) = true) := by simp; omega
        subst he
        clear hno
        go_wp2_with fail
        go_ret
        exact ⟨by rw [H.out]; rfl, by (repeat' (first | exact Below.refl _ _ | assumption | (with_reducible refine below_alloc' ?_) | (with_reducible refine Below.drew ?_) | (with_reducible refine below_next' (by assumption) ?_) | (with_reducible refine below_setRow ?_ ?_ _) | (with_reducible refine Below.setCell ?_ ?_ _) | (with_reducible refine below_next (by assumption) ?_ ?_) | (with_reducible refine Below.alloc ?_ ?_ _) | exact Nat.le_refl _ | (exact below_size (by assumption)) | (with_reducible refine size_alloc ?_) | (with_reducible refine size_setRow' ?_) | (with_reducible refine size_setCell' ?_) | (with_reducible refine size_next (by assumption) ?_) | omega | (simp; done) | (simp; omega)))⟩
      · have he' : (((k : Int) + 1 == n) = false) := by simp; omega
        have hno' : ¬ (1 ≤ n ∧ n ≤ (k : Int) + 1) := by omega
        have HN := Lib.hid hno'
        clear hno hno' he
        go_wp2_with fail
        go_round
        case rel => exact ⟨k + 1, by omega, by go_num, by have := HN.out; omega⟩
        case measure => simp [intOf]; omega
    · obtain rfl : k = 12 := by omega
      have H := Lib.hid (show getN f n = 0 by unfold getN; rw [nodeB_no (by omega)]; rfl)
      clear hno
      go_wp2_with fail
      go_ret
      exact ⟨by rw [H.out]; rfl, by (repeat' (first | exact Below.refl _ _ | assumption | (with_reducible refine below_alloc' ?_) | (with_reducible refine Below.drew ?_) | (with_reducible refine below_next' (by assumption) ?_) | (with_reducible refine below_setRow ?_ ?_ _) | (with_reducible refine Below.setCell ?_ ?_ _) | (with_reducible refine below_next (by assumption) ?_ ?_) | (with_reducible refine Below.alloc ?_ ?_ _) | exact Nat.le_refl _ | (exact below_size (by assumption)) | (with_reducible refine size_alloc ?_) | (with_reducible refine size_setRow' ?_) | (with_reducible refine size_setCell' ?_) | (with_reducible refine size_next (by assumption) ?_) | omega | (simp; done) | (simp; omega)))⟩

/-- The world of a loop that makes a vector out of two: the two, the result, the one that is made. -/
def Two (w wr : World) (f g h : Nat → Nat) : Prop :=
  Blk wr w.heap.size 25 (vl f).toArray ∧ Blk wr (w.heap.size + 1) 25 (vl g).toArray ∧ Blk wr (w.heap.size + 2) 25 #[.int .u32 0, .int .u32 0, .int .u32 0, .int .u32 0, .int .u32 0, .int .u32 0, .int .u32 0, .int .u32 0, .int .u32 0, .int .u32 0, .int .u32 0, .int .u32 0] ∧ Blk wr (w.heap.size + 3) 25 (vl h).toArray ∧ Below w.heap.size w wr
theorem Two.drew {w wr : World} {f g h : Nat → Nat} (H : Two w wr f g h) : Two w wr.drew f g h := ⟨H.1, H.2.1, H.2.2.1, H.2.2.2.1, H.2.2.2.2.drew⟩
theorem Two.same {w wr : World} {f g h h' : Nat → Nat} (H : Two w wr f g h) (e : vl h = vl h') : Two w wr f g h' := ⟨H.1, H.2.1, H.2.2.1, e ▸ H.2.2.2.1, H.2.2.2.2⟩
theorem Two.set {w wr : World} {f g h : Nat → Nat} (H : Two w wr f g h) (k : Nat) (x : Int) (h' : Nat → Nat) (e : (vl h).set k (.int .u32 x) = vl h') : Two w (wr.setCell ⟨w.heap.size + 3, k, none⟩ (.int .u32 x)) f g h' := by
  refine ⟨H.1.far (by simp) _, H.2.1.far (by simp) _, H.2.2.1.far (by simp) _, ?_, H.2.2.2.2.setCell (by simp) _⟩
  have := H.2.2.2.1.setCell k (.int .u32 x)
  rwa [List.setIfInBounds_toArray, e] at this

end Go.Proofs.YtkigaclcmodjaaaGreat

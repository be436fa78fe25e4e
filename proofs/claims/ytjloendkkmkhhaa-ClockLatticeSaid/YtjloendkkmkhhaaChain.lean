/-
ClockChain holds: dot behind dot of one node a vector grows by one each time, covers all of them, and no other node's more. No condition.
-/
import Derived.Test.YtjloendkkmkhhaaDots
namespace Go.Proofs.Ytjloendkkmkhhaa
open Go.ChangeShapes Go.WideShapes Go.ChangeAt Go.RowKit

def updF (f : Nat → Nat) (j x : Nat) : Nat → Nat := fun i => if i = j then x else f i
theorem updF_at (f : Nat → Nat) (j x : Nat) : updF f j x j = x := by simp [updF]
theorem updF_ne {f : Nat → Nat} {i j x : Nat} (h : i ≠ j) : updF f j x i = f i := by simp [updF, h]
theorem updF_self (f : Nat → Nat) (j : Nat) : vl (updF f j (f j)) = vl f := vl_ext fun i _ => by
  by_cases h : i = j
  · subst h; exact updF_at _ _ _
  · exact updF_ne h
theorem upd_get {f : Nat → Nat} {j x : Nat} (hj : j < 12) : getN (updF f j x) ((j : Int) + 1) = x := by
  unfold getN
  rw [if_pos (nodeB_yes (by omega) (by omega)), show ((j : Int) + 1 - 1).toNat = j by omega, updF_at]
theorem self_get {f : Nat → Nat} {j : Nat} (hj : j < 12) : getN f ((j : Int) + 1) = f j := by
  unfold getN
  rw [if_pos (nodeB_yes (by omega) (by omega)), show ((j : Int) + 1 - 1).toNat = j by omega]
theorem upd_with {f : Nat → Nat} {j x : Nat} (hj : j < 12) (hx : x < 1048576) : vl (withF (updF f j x) ((j : Int) + 1) (x + 1)) = vl (updF f j (x + 1)) := vl_ext fun i _ => by
  have hn := nodeB_yes (n := (j : Int) + 1) (by omega) (by omega)
  have hr : rightB ((j : Int) + 1) (x + 1) = true := by unfold rightB; rw [hn]; simp; omega
  unfold withF
  rw [hr, Bool.true_and]
  by_cases h : i = j
  · subst h; rw [updF_at, updF_at]; simp
  · rw [if_neg (by simp; omega), updF_ne h, updF_ne h]
theorem upd_has {f : Nat → Nat} {j x : Nat} (hj : j < 12) (h1 : 1 ≤ x) (h2 : x ≤ 1048576) : hasB (updF f j x) ((j : Int) + 1) x = true := by
  rw [hasB_at hj h1 h2, updF_at]; simp
theorem upd_cov {f : Nat → Nat} {j x : Nat} (h : f j ≤ x) : covB (updF f j x) f = true := (covB_iff _ _).2 fun i _ => by
  by_cases e : i = j
  · subst e; rw [updF_at]; exact h
  · rw [updF_ne e]; exact Nat.le_refl _
theorem upd_next {f : Nat → Nat} {j x : Nat} (hj : j < 12) : nextD (updF f j x) ((j : Int) + 1) = if x < 1048576 then ((j : Int) + 1, x + 1, 0) else (0, 0, 5) := by
  unfold nextD
  rw [if_pos (nodeB_yes (by omega) (by omega)), upd_get hj]

set_option maxRecDepth 20000 in
set_option maxHeartbeats 4000000 in
theorem chain_no (f : Nat → Nat) (node : Int) (m : Nat) (w : World) (hn : nodeB node = false) (hm : m < 256) :
    Calls Try.prog 7 #[.agg (vl f).toArray, .int .i64 node, .int .u8 m] w fun e w' => e = .returned (.bool true) ∧ Below w.heap.size w w' := by
  have C7 := Lib.hid (show ∀ W, Calls Try.prog 9 #[.agg (vl f).toArray, .int .i64 node] W fun e w' => e = .returned (.tuple #[.agg #[.int .i64 0, .int .u32 0], .int .i64 11]) ∧ Below W.heap.size W w' from fun W => by
    have h : nextD f node = (0, 0, 11) := by unfold nextD; rw [hn]; rfl
    have := next_any f node W
    rw [h] at this; exact this)
  have hr : node < 1 ∨ (1 ≤ node ∧ 12 < node) := by
    rcases Int.lt_or_le node 1 with h | h
    · exact Or.inl h
    · refine Or.inr ⟨h, ?_⟩
      rcases Int.lt_or_le 12 node with h2 | h2
      · exact h2
      · rw [nodeB_yes h h2] at hn; cases hn
  clear hn
  by_cases h0 : m = 0
  · subst h0
    go_enter Try.func7, Try.ntmps7
    go_wp2_with (first | (first | (refine wpList_load_blk rfl 24 _ rfl _ rfl 24 (vl ?_).toArray _ ?_ Try.underlying24 rfl (vinfo _) ?_; rotate_left; (focus ((first | assumption | ((repeat' (first | assumption | ((with_reducible refine Blk.new' ?_); (first | rfl | (simp; done))) | ((with_reducible refine Blk.newRow ?_); (first | rfl | (simp; done))) | ((with_reducible refine Blk.farRow ?_ ?_ _); rotate_left; (first | (simp; done) | (simp; omega) | omega)) | (with_reducible refine Blk.alloc ?_ _) | (with_reducible refine Blk.drew ?_) | ((with_reducible refine Blk.far ?_ ?_ _); rotate_left; (first | (simp; done) | (simp; omega) | omega)) | (with_reducible refine Blk.next' (by assumption) ?_))); done))))) | (refine wpList_store_blk rfl 24 _ _ rfl _ 24 ?_ (vl _).toArray rfl rfl ?_ (vinfo _) ?_ (vl_all _) ?_; rotate_left; (focus ((first | assumption | ((repeat' (first | assumption | ((with_reducible refine Blk.new' ?_); (first | rfl | (simp; done))) | ((with_reducible refine Blk.newRow ?_); (first | rfl | (simp; done))) | ((with_reducible refine Blk.farRow ?_ ?_ _); rotate_left; (first | (simp; done) | (simp; omega) | omega)) | (with_reducible refine Blk.alloc ?_ _) | (with_reducible refine Blk.drew ?_) | ((with_reducible refine Blk.far ?_ ?_ _); rotate_left; (first | (simp; done) | (simp; omega) | omega)) | (with_reducible refine Blk.next' (by assumption) ?_))); done)))); (focus (first | exact (vl_size _).trans (vl_size _).symm | exact (vl_size _).symm)); intro _hrow)))
    go_loopw [8] (fun i wr => i = .int .i64 0 ∧ Below w.heap.size w wr) (fun _ _ => 0)
    case atStart => exact ⟨rfl, by (repeat' (first | exact Below.refl _ _ | assumption | (with_reducible refine below_alloc' ?_) | (with_reducible refine Below.drew ?_) | (with_reducible refine below_next' (by assumption) ?_) | (with_reducible refine below_setRow ?_ ?_ _) | (with_reducible refine Below.setCell ?_ ?_ _) | (with_reducible refine below_next (by assumption) ?_ ?_) | (with_reducible refine Below.alloc ?_ ?_ _) | exact Nat.le_refl _ | (exact below_size (by assumption)) | (with_reducible refine size_alloc ?_) | (with_reducible refine size_setRow' ?_) | (with_reducible refine size_setCell' ?_) | (with_reducible refine size_next (by assumption) ?_) | omega | (simp; done) | (simp; omega)))⟩
    case round =>
      obtain ⟨rfl, BW⟩ := hrel
      go_wp2_with (first | (go_at_call 17; refine (alive_any _).mono ?_; rintro e w' ⟨rfl, hb⟩))
      go_ret
      exact ⟨rfl, below_next' hb BW⟩
  · have hm' : (0 : Int) < (m : Int) := by omega
    have hm2 : decide ((0 : Int) < (m : Int)) = true := by simp; omega
    have hm3 : (m : Int) < 256 := by omega
    clear h0 hm
    rcases hr with hr | ⟨hr, hr2⟩
    all_goals
      go_enter Try.func7, Try.ntmps7
      go_wp2_with (first | (first | (refine wpList_load_blk rfl 24 _ rfl _ rfl 24 (vl ?_).toArray _ ?_ Try.underlying24 rfl (vinfo _) ?_; rotate_left; (focus ((first | assumption | ((repeat' (first | assumption | ((with_reducible refine Blk.new' ?_); (first | rfl | (simp; done))) | ((with_reducible refine Blk.newRow ?_); (first | rfl | (simp; done))) | ((with_reducible refine Blk.farRow ?_ ?_ _); rotate_left; (first | (simp; done) | (simp; omega) | omega)) | (with_reducible refine Blk.alloc ?_ _) | (with_reducible refine Blk.drew ?_) | ((with_reducible refine Blk.far ?_ ?_ _); rotate_left; (first | (simp; done) | (simp; omega) | omega)) | (with_reducible refine Blk.next' (by assumption) ?_))); done))))) | (refine wpList_store_blk rfl 24 _ _ rfl _ 24 ?_ (vl _).toArray rfl rfl ?_ (vinfo _) ?_ (vl_all _) ?_; rotate_left; (focus ((first | assumption | ((repeat' (first | assumption | ((with_reducible refine Blk.new' ?_); (first | rfl | (simp; done))) | ((with_reducible refine Blk.newRow ?_); (first | rfl | (simp; done))) | ((with_reducible refine Blk.farRow ?_ ?_ _); rotate_left; (first | (simp; done) | (simp; omega) | omega)) | (with_reducible refine Blk.alloc ?_ _) | (with_reducible refine Blk.drew ?_) | ((with_reducible refine Blk.far ?_ ?_ _); rotate_left; (first | (simp; done) | (simp; omega) | omega)) | (with_reducible refine Blk.next' (by assumption) ?_))); done)))); (focus (first | exact (vl_size _).trans (vl_size _).symm | exact (vl_size _).symm)); intro _hrow)))
      go_loopw [8] (fun i wr => i = .int .i64 0 ∧ Blk wr w.heap.size 24 (vl f).toArray ∧ Below w.heap.size w wr) (fun _ _ => 0)
      case atStart => exact ⟨rfl, by (first | assumption | ((repeat' (first | assumption | ((with_reducible refine Blk.new' ?_); (first | rfl | (simp; done))) | ((with_reducible refine Blk.newRow ?_); (first | rfl | (simp; done))) | ((with_reducible refine Blk.farRow ?_ ?_ _); rotate_left; (first | (simp; done) | (simp; omega) | omega)) | (with_reducible refine Blk.alloc ?_ _) | (with_reducible refine Blk.drew ?_) | ((with_reducible refine Blk.far ?_ ?_ _); rotate_left; (first | (simp; done) | (simp; omega) | omega)) | (with_reducible refine Blk.next' (by assumption) ?_))); done)), by (repeat' (first | exact Below.refl _ _ | assumption | (with_reducible refine below_alloc' ?_) | (with_reducible refine Below.drew ?_) | (with_reducible refine below_next' (by assumption) ?_) | (with_reducible refine below_setRow ?_ ?_ _) | (with_reducible refine Below.setCell ?_ ?_ _) | (with_reducible refine below_next (by assumption) ?_ ?_) | (with_reducible refine Below.alloc ?_ ?_ _) | exact Nat.le_refl _ | (exact below_size (by assumption)) | (with_reducible refine size_alloc ?_) | (with_reducible refine size_setRow' ?_) | (with_reducible refine size_setCell' ?_) | (with_reducible refine size_next (by assumption) ?_) | omega | (simp; done) | (simp; omega)))⟩
      case round =>
        obtain ⟨rfl, B0, BW⟩ := hrel
        go_wp2_with (first | (first | (refine wpList_load_blk rfl 24 _ rfl _ rfl 24 (vl ?_).toArray _ ?_ Try.underlying24 rfl (vinfo _) ?_; rotate_left; (focus ((first | assumption | ((repeat' (first | assumption | ((with_reducible refine Blk.new' ?_); (first | rfl | (simp; done))) | ((with_reducible refine Blk.newRow ?_); (first | rfl | (simp; done))) | ((with_reducible refine Blk.farRow ?_ ?_ _); rotate_left; (first | (simp; done) | (simp; omega) | omega)) | (with_reducible refine Blk.alloc ?_ _) | (with_reducible refine Blk.drew ?_) | ((with_reducible refine Blk.far ?_ ?_ _); rotate_left; (first | (simp; done) | (simp; omega) | omega)) | (with_reducible refine Blk.next' (by assumption) ?_))); done))))) | (refine wpList_store_blk rfl 24 _ _ rfl _ 24 ?_ (vl _).toArray rfl rfl ?_ (vinfo _) ?_ (vl_all _) ?_; rotate_left; (focus ((first | assumption | ((repeat' (first | assumption | ((with_reducible refine Blk.new' ?_); (first | rfl | (simp; done))) | ((with_reducible refine Blk.newRow ?_); (first | rfl | (simp; done))) | ((with_reducible refine Blk.farRow ?_ ?_ _); rotate_left; (first | (simp; done) | (simp; omega) | omega)) | (with_reducible refine Blk.alloc ?_ _) | (with_reducible refine Blk.drew ?_) | ((with_reducible refine Blk.far ?_ ?_ _); rotate_left; (first | (simp; done) | (simp; omega) | omega)) | (with_reducible refine Blk.next' (by assumption) ?_))); done)))); (focus (first | exact (vl_size _).trans (vl_size _).symm | exact (vl_size _).symm)); intro _hrow)) | (go_at_call 9; refine (C7.out _).mono ?_; rintro e w1 ⟨rfl, hb1⟩) | (go_at_call 17; refine (alive_any _).mono ?_; rintro e w' ⟨rfl, hb⟩))
        go_ret
        exact ⟨rfl, by (repeat' (first | exact Below.refl _ _ | assumption | (with_reducible refine below_alloc' ?_) | (with_reducible refine Below.drew ?_) | (with_reducible refine below_next' (by assumption) ?_) | (with_reducible refine below_setRow ?_ ?_ _) | (with_reducible refine Below.setCell ?_ ?_ _) | (with_reducible refine below_next (by assumption) ?_ ?_) | (with_reducible refine Below.alloc ?_ ?_ _) | exact Nat.le_refl _ | (exact below_size (by assumption)) | (with_reducible refine size_alloc ?_) | (with_reducible refine size_setRow' ?_) | (with_reducible refine size_setCell' ?_) | (with_reducible refine size_next (by assumption) ?_) | omega | (simp; done) | (simp; omega)))⟩
set_option maxRecDepth 20000 in
set_option maxHeartbeats 8000000 in
theorem chain_yes (f : Nat → Nat) (j m : Nat) (w : World) (hj : j < 12) (hm : m < 256) :
    Calls Try.prog 7 #[.agg (vl f).toArray, .int .i64 ((j : Int) + 1), .int .u8 m] w fun e w' => e = .returned (.bool true) ∧ Below w.heap.size w w' := by
  have hm3 : (m : Int) < 256 := by omega
  have g1 : ¬ (j : Int) + 1 < 1 := by omega
  have g2 : ¬ (12 : Int) < (j : Int) + 1 := by omega
  have g3 : (j : Int) + 1 - 1 = (j : Int) := by omega
  have g4 : (j : Int) < 12 := by omega
  go_enter Try.func7, Try.ntmps7
  go_wp2_with (first | (first | (refine wpList_load_blk rfl 24 _ rfl _ rfl 24 (vl ?_).toArray _ ?_ Try.underlying24 rfl (vinfo _) ?_; rotate_left; (focus ((first | assumption | ((repeat' (first | assumption | ((with_reducible refine Blk.new' ?_); (first | rfl | (simp; done))) | ((with_reducible refine Blk.newRow ?_); (first | rfl | (simp; done))) | ((with_reducible refine Blk.farRow ?_ ?_ _); rotate_left; (first | (simp; done) | (simp; omega) | omega)) | (with_reducible refine Blk.alloc ?_ _) | (with_reducible refine Blk.drew ?_) | ((with_reducible refine Blk.far ?_ ?_ _); rotate_left; (first | (simp; done) | (simp; omega) | omega)) | (with_reducible refine Blk.next' (by assumption) ?_))); done))))) | (refine wpList_store_blk rfl 24 _ _ rfl _ 24 ?_ (vl _).toArray rfl rfl ?_ (vinfo _) ?_ (vl_all _) ?_; rotate_left; (focus ((first | assumption | ((repeat' (first | assumption | ((with_reducible refine Blk.new' ?_); (first | rfl | (simp; done))) | ((with_reducible refine Blk.newRow ?_); (first | rfl | (simp; done))) | ((with_reducible refine Blk.farRow ?_ ?_ _); rotate_left; (first | (simp; done) | (simp; omega) | omega)) | (with_reducible refine Blk.alloc ?_ _) | (with_reducible refine Blk.drew ?_) | ((with_reducible refine Blk.far ?_ ?_ _); rotate_left; (first | (simp; done) | (simp; omega) | omega)) | (with_reducible refine Blk.next' (by assumption) ?_))); done)))); (focus (first | exact (vl_size _).trans (vl_size _).symm | exact (vl_size _).symm)); intro _hrow)))
  go_loopw [8] (fun i wr => ∃ k : Nat, k ≤ m ∧ i = .int .i64 k ∧ (0 < k → f j + k ≤ 1048576) ∧ Blk wr w.heap.size 24 (vl (updF f j (f j + k))).toArray ∧ Blk wr (w.heap.size + 1) 24 (vl f).toArray ∧ Below w.heap.size w wr) (fun i _ => m - (intOf i).toNat)
  case atStart => exact ⟨0, Nat.zero_le _, rfl, fun h => by omega, by rw [show vl (updF f j (f j + 0)) = vl f from updF_self f j]; (first | assumption | ((repeat' (first | assumption | ((with_reducible refine Blk.new' ?_); (first | rfl | (simp; done))) | ((with_reducible refine Blk.newRow ?_); (first | rfl | (simp; done))) | ((with_reducible refine Blk.farRow ?_ ?_ _); rotate_left; (first | (simp; done) | (simp; omega) | omega)) | (with_reducible refine Blk.alloc ?_ _) | (with_reducible refine Blk.drew ?_) | ((with_reducible refine Blk.far ?_ ?_ _); rotate_left; (first | (simp; done) | (simp; omega) | omega)) | (with_reducible refine Blk.next' (by assumption) ?_))); done)), by (first | assumption | ((repeat' (first | assumption | ((with_reducible refine Blk.new' ?_); (first | rfl | (simp; done))) | ((with_reducible refine Blk.newRow ?_); (first | rfl | (simp; done))) | ((with_reducible refine Blk.farRow ?_ ?_ _); rotate_left; (first | (simp; done) | (simp; omega) | omega)) | (with_reducible refine Blk.alloc ?_ _) | (with_reducible refine Blk.drew ?_) | ((with_reducible refine Blk.far ?_ ?_ _); rotate_left; (first | (simp; done) | (simp; omega) | omega)) | (with_reducible refine Blk.next' (by assumption) ?_))); done)), by (repeat' (first | exact Below.refl _ _ | assumption | (with_reducible refine below_alloc' ?_) | (with_reducible refine Below.drew ?_) | (with_reducible refine below_next' (by assumption) ?_) | (with_reducible refine below_setRow ?_ ?_ _) | (with_reducible refine Below.setCell ?_ ?_ _) | (with_reducible refine below_next (by assumption) ?_ ?_) | (with_reducible refine Below.alloc ?_ ?_ _) | exact Nat.le_refl _ | (exact below_size (by assumption)) | (with_reducible refine size_alloc ?_) | (with_reducible refine size_setRow' ?_) | (with_reducible refine size_setCell' ?_) | (with_reducible refine size_next (by assumption) ?_) | omega | (simp; done) | (simp; omega)))⟩
  case round =>
    clear _hrow
    obtain ⟨k, hk, rfl, hle, B0, B1, BW⟩ := hrel
    by_cases hlt : k < m
    · have h1 : (k : Int) < (m : Int) := by omega
      obtain ⟨x, hx⟩ : ∃ x, x = f j + k := ⟨_, rfl⟩
      have HK := Lib.hid (show f j + (k + 1) = x + 1 by omega)
      rw [← hx] at B0
      have c0 := cell_blk (i := j) B0 (by rw [List.getElem?_toArray]; exact vl_get hj)
      rw [updF_at] at c0
      have hN := upd_next (f := f) (x := x) hj
      by_cases hlow : x < 1048576
      · rw [if_pos hlow] at hN
        obtain ⟨u, hu⟩ : ∃ u, u = updF f j x := ⟨_, rfl⟩
        obtain ⟨u2, hu2⟩ : ∃ u2, u2 = updF f j (x + 1) := ⟨_, rfl⟩
        have C1 := Lib.hid (show ∀ W, Calls Try.prog 9 #[.agg (vl u).toArray, .int .i64 ((j : Int) + 1)] W fun e w' => e = .returned (.tuple #[.agg #[.int .i64 ((j : Int) + 1), .int .u32 ((x : Int) + 1)], .int .i64 0]) ∧ Below W.heap.size W w' from fun W => by
          have := next_any u ((j : Int) + 1) W
          rw [hu, hN] at this; rw [hu]; exact this)
        have C2 := Lib.hid (show ∀ W, Calls Try.prog 15 #[.agg (vl u).toArray, .agg #[.int .i64 ((j : Int) + 1), .int .u32 ((x : Int) + 1)]] W fun e w' => e = .returned (.agg (vl u2).toArray) ∧ Below W.heap.size W w' from fun W => by
          have := with_any u ((j : Int) + 1) (x + 1) W
          rw [hu, upd_with hj hlow, ← hu2] at this; rw [hu]; exact this)
        have C3 := Lib.hid (show ∀ W, Calls Try.prog 13 #[.agg (vl u2).toArray, .int .i64 ((j : Int) + 1)] W fun e w' => e = .returned (.int .u32 ((x : Int) + 1)) ∧ Below W.heap.size W w' from fun W => by
          have := get_any u2 ((j : Int) + 1) W
          rw [hu2, upd_get hj, ← hu2] at this; exact this)
        have C4 := Lib.hid (show ∀ W, Calls Try.prog 24 #[.agg (vl u2).toArray, .agg #[.int .i64 ((j : Int) + 1), .int .u32 ((x : Int) + 1)]] W fun e w' => e = .returned (.bool true) ∧ Below W.heap.size W w' from fun W => by
          have := has_any u2 ((j : Int) + 1) (x + 1) W
          rw [hu2, upd_has hj (by omega) (by omega), ← hu2] at this; exact this)
        have HL := Lib.hid (show 0 < k + 1 → f j + (k + 1) ≤ 1048576 from fun _ => by omega)
        have HU := Lib.hid (show updF f j (f j + (k + 1)) = u2 by rw [HK.out, hu2])
        rw [← hu] at B0
        clear hN hx hu hu2 hle hlow c0
        go_wp2_with (first | (first | (refine wpList_load_blk rfl 24 _ rfl _ rfl 24 (vl ?_).toArray _ ?_ Try.underlying24 rfl (vinfo _) ?_; rotate_left; (focus ((first | assumption | ((repeat' (first | assumption | ((with_reducible refine Blk.new' ?_); (first | rfl | (simp; done))) | ((with_reducible refine Blk.newRow ?_); (first | rfl | (simp; done))) | ((with_reducible refine Blk.farRow ?_ ?_ _); rotate_left; (first | (simp; done) | (simp; omega) | omega)) | (with_reducible refine Blk.alloc ?_ _) | (with_reducible refine Blk.drew ?_) | ((with_reducible refine Blk.far ?_ ?_ _); rotate_left; (first | (simp; done) | (simp; omega) | omega)) | (with_reducible refine Blk.next' (by assumption) ?_))); done))))) | (refine wpList_store_blk rfl 24 _ _ rfl _ 24 ?_ (vl _).toArray rfl rfl ?_ (vinfo _) ?_ (vl_all _) ?_; rotate_left; (focus ((first | assumption | ((repeat' (first | assumption | ((with_reducible refine Blk.new' ?_); (first | rfl | (simp; done))) | ((with_reducible refine Blk.newRow ?_); (first | rfl | (simp; done))) | ((with_reducible refine Blk.farRow ?_ ?_ _); rotate_left; (first | (simp; done) | (simp; omega) | omega)) | (with_reducible refine Blk.alloc ?_ _) | (with_reducible refine Blk.drew ?_) | ((with_reducible refine Blk.far ?_ ?_ _); rotate_left; (first | (simp; done) | (simp; omega) | omega)) | (with_reducible refine Blk.next' (by assumption) ?_))); done)))); (focus (first | exact (vl_size _).trans (vl_size _).symm | exact (vl_size _).symm)); intro _hrow)) | (refine wpList_load_blk rfl 26 _ rfl _ rfl 26 #[.int .i64 ?_, .int .u32 ?_] _ ?_ Try.underlying26 rfl (dinfo _ _) ?_; rotate_left; rotate_left; (focus ((first | assumption | ((repeat' (first | assumption | ((with_reducible refine Blk.new' ?_); (first | rfl | (simp; done))) | ((with_reducible refine Blk.newRow ?_); (first | rfl | (simp; done))) | ((with_reducible refine Blk.farRow ?_ ?_ _); rotate_left; (first | (simp; done) | (simp; omega) | omega)) | (with_reducible refine Blk.alloc ?_ _) | (with_reducible refine Blk.drew ?_) | ((with_reducible refine Blk.far ?_ ?_ _); rotate_left; (first | (simp; done) | (simp; omega) | omega)) | (with_reducible refine Blk.next' (by assumption) ?_))); done))))) | (go_at_call 9; refine (C1.out _).mono ?_; rintro e w1 ⟨rfl, hb1⟩) | (go_at_call 15; refine (C2.out _).mono ?_; rintro e w2 ⟨rfl, hb2⟩))
        have D0 : Blk w2 w.heap.size 24 (vl u).toArray := by (first | assumption | ((repeat' (first | assumption | ((with_reducible refine Blk.new' ?_); (first | rfl | (simp; done))) | ((with_reducible refine Blk.newRow ?_); (first | rfl | (simp; done))) | ((with_reducible refine Blk.farRow ?_ ?_ _); rotate_left; (first | (simp; done) | (simp; omega) | omega)) | (with_reducible refine Blk.alloc ?_ _) | (with_reducible refine Blk.drew ?_) | ((with_reducible refine Blk.far ?_ ?_ _); rotate_left; (first | (simp; done) | (simp; omega) | omega)) | (with_reducible refine Blk.next' (by assumption) ?_))); done))
        have D1 : Blk w2 (w.heap.size + 1) 24 (vl f).toArray := by (first | assumption | ((repeat' (first | assumption | ((with_reducible refine Blk.new' ?_); (first | rfl | (simp; done))) | ((with_reducible refine Blk.newRow ?_); (first | rfl | (simp; done))) | ((with_reducible refine Blk.farRow ?_ ?_ _); rotate_left; (first | (simp; done) | (simp; omega) | omega)) | (with_reducible refine Blk.alloc ?_ _) | (with_reducible refine Blk.drew ?_) | ((with_reducible refine Blk.far ?_ ?_ _); rotate_left; (first | (simp; done) | (simp; omega) | omega)) | (with_reducible refine Blk.next' (by assumption) ?_))); done))
        have D2 : Blk w2 w1.heap.size 26 #[.int .i64 ((j : Int) + 1), .int .u32 ((x : Int) + 1)] := by (first | assumption | ((repeat' (first | assumption | ((with_reducible refine Blk.new' ?_); (first | rfl | (simp; done))) | ((with_reducible refine Blk.newRow ?_); (first | rfl | (simp; done))) | ((with_reducible refine Blk.farRow ?_ ?_ _); rotate_left; (first | (simp; done) | (simp; omega) | omega)) | (with_reducible refine Blk.alloc ?_ _) | (with_reducible refine Blk.drew ?_) | ((with_reducible refine Blk.far ?_ ?_ _); rotate_left; (first | (simp; done) | (simp; omega) | omega)) | (with_reducible refine Blk.next' (by assumption) ?_))); done))
        have D3 : Below w.heap.size w w2 := by (repeat' (first | exact Below.refl _ _ | assumption | (with_reducible refine below_alloc' ?_) | (with_reducible refine Below.drew ?_) | (with_reducible refine below_next' (by assumption) ?_) | (with_reducible refine below_setRow ?_ ?_ _) | (with_reducible refine Below.setCell ?_ ?_ _) | (with_reducible refine below_next (by assumption) ?_ ?_) | (with_reducible refine Below.alloc ?_ ?_ _) | exact Nat.le_refl _ | (exact below_size (by assumption)) | (with_reducible refine size_alloc ?_) | (with_reducible refine size_setRow' ?_) | (with_reducible refine size_setCell' ?_) | (with_reducible refine size_next (by assumption) ?_) | omega | (simp; done) | (simp; omega)))
        have hz : w.heap.size + 1 < w1.heap.size := Nat.lt_of_lt_of_le B1.lt hb1.size
        clear hb1 hb2 B0 B1 BW
        obtain ⟨w3, hw3⟩ : ∃ w3, w3 = w2.setRow w.heap.size (vl u2).toArray := ⟨_, rfl⟩
        rw [← hw3] at _hrow ⊢
        have E1 : Blk w3 (w.heap.size + 1) 24 (vl f).toArray := by rw [hw3]; exact D1.farRow (by omega) _
        have E2 : Blk w3 w1.heap.size 26 #[.int .i64 ((j : Int) + 1), .int .u32 ((x : Int) + 1)] := by rw [hw3]; exact D2.farRow (by omega) _
        have E3 : Below w.heap.size w w3 := by rw [hw3]; exact below_setRow D3 (Nat.le_refl _) _
        have E0 := _hrow.range
        have e1 := cell_blk (i := 0) E2 rfl
        have e2 := cell_blk (i := 1) E2 rfl
        clear hw3 D0 D1 D2 D3 hz
        have N0 := Lib.hid (show ∀ W, Below w3.heap.size w3 W → Blk W w.heap.size 24 (vl u2).toArray ∧ Blk W (w.heap.size + 1) 24 (vl f).toArray ∧ Below w.heap.size w W from
          fun W hb => ⟨_hrow.next hb, E1.next hb, below_next hb E3.size E3⟩)
        clear E1 E2 _hrow
        have e1' := cell_drew e1
        have e2' := cell_drew e2
        refine wp_region_plan (S := (fun W => W.rangeAt w.heap.size 0 (vl u2) ∧ W.cell? ⟨w1.heap.size, 0, none⟩ = some (.int .i64 ((j : Int) + 1)) ∧ W.cell? ⟨w1.heap.size, 1, none⟩ = some (.int .u32 ((x : Int) + 1)) ∧ Below w.heap.size w W ∧ Below w3.heap.size w3 W)) [(0, true), (1, true), (2, true), (3, true), (4, true), (5, true), (6, true), (7, true), (8, true), (9, false), (10, true), (11, true), (12, true), (13, true), (14, true), (15, false), (16, true), (17, true)] 9999 (by kernel_rfl) (by kernel_rfl) (by kernel_rfl) (by kernel_rfl) (by kernel_rfl) (fun _ _ d _ _ h => by cases d <;> exact h) ?_ (fun hHeld => ?_); (focus ((go_split_ands; (repeat' (refine And.intro ?_ ?_)); all_goals (first | assumption | ((repeat' (first | assumption | (with_reducible refine cell_drew ?_) | (with_reducible refine cell_next (by assumption) ?_) | ((with_reducible refine cell_new ?_ ?_); (focus (first | rfl | (simp; done))); (focus rfl)) | (with_reducible refine cell_alloc ?_))); done) | ((repeat' (first | assumption | (with_reducible refine (World.rangeAt_drew _ _ _ _).2 ?_) | (with_reducible refine vrange_next (by assumption) ?_) | (refine Blk.range (t := 24) ?_; (first | assumption | ((repeat' (first | assumption | ((with_reducible refine Blk.new' ?_); (first | rfl | (simp; done))) | ((with_reducible refine Blk.newRow ?_); (first | rfl | (simp; done))) | ((with_reducible refine Blk.farRow ?_ ?_ _); rotate_left; (first | (simp; done) | (simp; omega) | omega)) | (with_reducible refine Blk.alloc ?_ _) | (with_reducible refine Blk.drew ?_) | ((with_reducible refine Blk.far ?_ ?_ _); rotate_left; (first | (simp; done) | (simp; omega) | omega)) | (with_reducible refine Blk.next' (by assumption) ?_))); done))) | (with_reducible refine World.rangeAt_alloc ?_ _))); done) | ((repeat' (first | exact Below.refl _ _ | assumption | (with_reducible refine below_alloc' ?_) | (with_reducible refine Below.drew ?_) | (with_reducible refine below_next' (by assumption) ?_) | (with_reducible refine below_setRow ?_ ?_ _) | (with_reducible refine Below.setCell ?_ ?_ _) | (with_reducible refine below_next (by assumption) ?_ ?_) | (with_reducible refine Below.alloc ?_ ?_ _) | exact Nat.le_refl _ | (exact below_size (by assumption)) | (with_reducible refine size_alloc ?_) | (with_reducible refine size_setRow' ?_) | (with_reducible refine size_setCell' ?_) | (with_reducible refine size_next (by assumption) ?_) | omega | (simp; done) | (simp; omega))); done))))); simp only [List.map_cons, List.map_nil, List.getElem?_toArray, List.getElem?_cons_zero, List.getElem?_cons_succ]
        clear e1 e2 e1' e2' E0 E3
        (repeat (first | (refine wpPlan.take (v := undef) (Or.inr ⟨by rfl, rfl⟩) ?_; simp only [Act.put, List.setIfInBounds_toArray, List.set_cons_zero, List.set_cons_succ]) | (refine wpPlan.take (v := .agg (vl ?_).toArray) (yieldsIf_load_mid rfl 24 _ rfl _ _ rfl (vl _) _ ?_ Try.underlying24 rfl (vinfoL _)) ?_; rotate_left; (focus (intro _ hS; (try dsimp only at hS); go_split_ands; assumption)); simp only [Act.put, List.setIfInBounds_toArray, List.set_cons_zero, List.set_cons_succ]) | (refine wpPlan.take (v := ?_) (Or.inl ⟨by rfl, ?_⟩) ?_; rotate_left; (focus (intro _ hS; (try dsimp only at hS); go_split_ands; (try subst hS); go_simp; (try (with_reducible rfl)); done)); simp only [Act.put, List.setIfInBounds_toArray, List.set_cons_zero, List.set_cons_succ]) | (refine wpPlan.carry (fun K hK => ?_); (first | (refine step_buildSlice2 (by rfl) _ _ rfl rfl rfl ?_) | go_simp); (try (first  | (go_at_call 13; (with_reducible refine (C3.out _).mono ?_); rintro e w' ⟨rfl, hb⟩) | (go_at_call 24; (with_reducible refine (C4.out _).mono ?_); rintro e w' ⟨rfl, hb⟩))); (try (go_wp2_with fail)); refine hK.out _ _ ?_ (fun hHeld' => ?_); (focus ((go_split_ands; (repeat' (refine And.intro ?_ ?_)); all_goals (first | assumption | ((repeat' (first | assumption | (with_reducible refine cell_drew ?_) | (with_reducible refine cell_next (by assumption) ?_) | ((with_reducible refine cell_new ?_ ?_); (focus (first | rfl | (simp; done))); (focus rfl)) | (with_reducible refine cell_alloc ?_))); done) | ((repeat' (first | assumption | (with_reducible refine (World.rangeAt_drew _ _ _ _).2 ?_) | (with_reducible refine vrange_next (by assumption) ?_) | (refine Blk.range (t := 24) ?_; (first | assumption | ((repeat' (first | assumption | ((with_reducible refine Blk.new' ?_); (first | rfl | (simp; done))) | ((with_reducible refine Blk.newRow ?_); (first | rfl | (simp; done))) | ((with_reducible refine Blk.farRow ?_ ?_ _); rotate_left; (first | (simp; done) | (simp; omega) | omega)) | (with_reducible refine Blk.alloc ?_ _) | (with_reducible refine Blk.drew ?_) | ((with_reducible refine Blk.far ?_ ?_ _); rotate_left; (first | (simp; done) | (simp; omega) | omega)) | (with_reducible refine Blk.next' (by assumption) ?_))); done))) | (with_reducible refine World.rangeAt_alloc ?_ _))); done) | ((repeat' (first | exact Below.refl _ _ | assumption | (with_reducible refine below_alloc' ?_) | (with_reducible refine Below.drew ?_) | (with_reducible refine below_next' (by assumption) ?_) | (with_reducible refine below_setRow ?_ ?_ _) | (with_reducible refine Below.setCell ?_ ?_ _) | (with_reducible refine below_next (by assumption) ?_ ?_) | (with_reducible refine Below.alloc ?_ ?_ _) | exact Nat.le_refl _ | (exact below_size (by assumption)) | (with_reducible refine size_alloc ?_) | (with_reducible refine size_setRow' ?_) | (with_reducible refine size_setCell' ?_) | (with_reducible refine size_next (by assumption) ?_) | omega | (simp; done) | (simp; omega))); done))))); clear hK K hHeld; have hHeld := hHeld'; clear hHeld'; (try clear hb); (try simp only [Act.put, List.setIfInBounds_toArray, List.set_cons_zero, List.set_cons_succ])))); refine wpPlan.done ?_
        have hN0 := N0.out _ hHeld.2.2.2.2
        clear hHeld
        go_wp2_with fail
        go_roundw
        case rel => exact ⟨k + 1, by omega, by go_num, HL.out, by rw [HU.out]; exact hN0.1, hN0.2.1, hN0.2.2⟩
        case measure => simp [intOf]; omega
      · rw [if_neg hlow] at hN
        have hx' : decide (1048576 ≤ (x : Int)) = true := by simp; omega
        obtain ⟨u, hu⟩ : ∃ u, u = updF f j x := ⟨_, rfl⟩
        have C1 := Lib.hid (show ∀ W, Calls Try.prog 9 #[.agg (vl u).toArray, .int .i64 ((j : Int) + 1)] W fun e w' => e = .returned (.tuple #[.agg #[.int .i64 0, .int .u32 0], .int .i64 5]) ∧ Below W.heap.size W w' from fun W => by
          have := next_any u ((j : Int) + 1) W
          rw [hu, hN] at this; rw [hu]; exact this)
        rw [← hu] at B0
        clear hN hx hu hle hlow HK
        go_wp2_with (first | (first | (refine wpList_load_blk rfl 24 _ rfl _ rfl 24 (vl ?_).toArray _ ?_ Try.underlying24 rfl (vinfo _) ?_; rotate_left; (focus ((first | assumption | ((repeat' (first | assumption | ((with_reducible refine Blk.new' ?_); (first | rfl | (simp; done))) | ((with_reducible refine Blk.newRow ?_); (first | rfl | (simp; done))) | ((with_reducible refine Blk.farRow ?_ ?_ _); rotate_left; (first | (simp; done) | (simp; omega) | omega)) | (with_reducible refine Blk.alloc ?_ _) | (with_reducible refine Blk.drew ?_) | ((with_reducible refine Blk.far ?_ ?_ _); rotate_left; (first | (simp; done) | (simp; omega) | omega)) | (with_reducible refine Blk.next' (by assumption) ?_))); done))))) | (refine wpList_store_blk rfl 24 _ _ rfl _ 24 ?_ (vl _).toArray rfl rfl ?_ (vinfo _) ?_ (vl_all _) ?_; rotate_left; (focus ((first | assumption | ((repeat' (first | assumption | ((with_reducible refine Blk.new' ?_); (first | rfl | (simp; done))) | ((with_reducible refine Blk.newRow ?_); (first | rfl | (simp; done))) | ((with_reducible refine Blk.farRow ?_ ?_ _); rotate_left; (first | (simp; done) | (simp; omega) | omega)) | (with_reducible refine Blk.alloc ?_ _) | (with_reducible refine Blk.drew ?_) | ((with_reducible refine Blk.far ?_ ?_ _); rotate_left; (first | (simp; done) | (simp; omega) | omega)) | (with_reducible refine Blk.next' (by assumption) ?_))); done)))); (focus (first | exact (vl_size _).trans (vl_size _).symm | exact (vl_size _).symm)); intro _hrow)) | (go_at_call 9; refine (C1.out _).mono ?_; rintro e w1 ⟨rfl, hb1⟩) | (go_at_call 17; refine (alive_any _).mono ?_; rintro e w2 ⟨rfl, hb2⟩; have cc := cell_next hb2 (cell_alloc (cell_next hb1 c0))))
        go_ret
        exact ⟨rfl, by (repeat' (first | exact Below.refl _ _ | assumption | (with_reducible refine below_alloc' ?_) | (with_reducible refine Below.drew ?_) | (with_reducible refine below_next' (by assumption) ?_) | (with_reducible refine below_setRow ?_ ?_ _) | (with_reducible refine Below.setCell ?_ ?_ _) | (with_reducible refine below_next (by assumption) ?_ ?_) | (with_reducible refine Below.alloc ?_ ?_ _) | exact Nat.le_refl _ | (exact below_size (by assumption)) | (with_reducible refine size_alloc ?_) | (with_reducible refine size_setRow' ?_) | (with_reducible refine size_setCell' ?_) | (with_reducible refine size_next (by assumption) ?_) | omega | (simp; done) | (simp; omega)))⟩
    · obtain rfl : k = m := by omega
      by_cases h0 : k = 0
      · subst h0
        go_wp2_with (first | (go_at_call 17; refine (alive_any _).mono ?_; rintro e w' ⟨rfl, hb⟩))
        go_ret
        exact ⟨rfl, below_next' hb BW⟩
      · have hle' := hle (by omega)
        have hk0 : ((k : Int) == 0) = false := by simp; omega
        obtain ⟨u, hu⟩ : ∃ u, u = updF f j (f j + k) := ⟨_, rfl⟩
        have C1 := Lib.hid (show ∀ W, Calls Try.prog 13 #[.agg (vl u).toArray, .int .i64 ((j : Int) + 1)] W fun e w' => e = .returned (.int .u32 ((f j : Int) + (k : Int))) ∧ Below W.heap.size W w' from fun W => by
          have := get_any u ((j : Int) + 1) W
          rw [hu, upd_get hj, ← hu] at this; exact this)
        have C2 := Lib.hid (show ∀ W, Calls Try.prog 13 #[.agg (vl f).toArray, .int .i64 ((j : Int) + 1)] W fun e w' => e = .returned (.int .u32 (f j : Int)) ∧ Below W.heap.size W w' from fun W => by
          have := get_any f ((j : Int) + 1) W
          rw [self_get hj] at this; exact this)
        have C3 := Lib.hid (show ∀ W, Calls Try.prog 22 #[.agg (vl u).toArray, .agg (vl f).toArray] W fun e w' => e = .returned (.bool true) ∧ Below W.heap.size W w' from fun W => by
          have := covers_any u f W
          rw [hu, upd_cov (by omega), ← hu] at this; exact this)
        have HW := Lib.hid (show IntKind.u32.wrap ((f j : Int) + (k : Int)) = (f j : Int) + (k : Int) by rw [IntKind.wrap_u32]; omega)
        have HWK := Lib.hid (show IntKind.u32.wrap (k : Int) = (k : Int) by rw [IntKind.wrap_u32]; omega)
        have HV := Lib.hid (show ∀ i, i ≠ j → u i = f i from fun i hi => by rw [hu, updF_ne hi])
        rw [← hu] at B0
        clear hu hle hle' h0 hlt
        go_wp2_with fail
        go_loopw [11] (fun i W => ∃ q : Nat, q ≤ 12 ∧ i = .int .i64 q ∧ Blk W w.heap.size 24 (vl u).toArray ∧ Blk W (w.heap.size + 1) 24 (vl f).toArray ∧ Below w.heap.size w W) (fun i _ => 12 - (intOf i).toNat)
        case atStart => exact ⟨0, Nat.zero_le _, rfl, B0, B1, BW⟩
        case round =>
          clear B0 B1 BW
          obtain ⟨q, hq, rfl, B0, B1, BW⟩ := hrel
          by_cases hl : q < 12
          · have h1 : (q : Int) < 12 := by omega
            have c0 := cell_blk (i := q) B0 (by rw [List.getElem?_toArray]; exact vl_get hl)
            have c1 := cell_blk (i := q) B1 (by rw [List.getElem?_toArray]; exact vl_get hl)
            have N0 := Lib.hid B0.drew
            have N1 := Lib.hid B1.drew
            have N2 := Lib.hid BW.drew
            clear B0 B1 BW
            by_cases he : q = j
            · subst he
              go_wp2_with fail
              rename_i W _
              have hw := wrap_next hl
              refine wp_region_plan (S := fun w' => w' = World.drew _) [(0, true), (1, true), (2, true), (3, true), (4, true), (5, true), (6, true), (7, true), (8, true), (9, true), (10, true), (11, true), (12, true)] 9999 (by kernel_rfl) (by kernel_rfl) (by kernel_rfl) (by kernel_rfl) (by kernel_rfl) (fun _ _ d _ _ h => by cases d <;> exact h) rfl (fun hHeld => ?_); simp only [List.map_cons, List.map_nil, List.getElem?_toArray, List.getElem?_cons_zero, List.getElem?_cons_succ]
              (repeat (first | (refine wpPlan.take (v := undef) (Or.inr ⟨by rfl, rfl⟩) ?_; simp only [Act.put, List.setIfInBounds_toArray, List.set_cons_zero, List.set_cons_succ]) | (refine wpPlan.take (v := ?_) (Or.inl ⟨by rfl, ?_⟩) ?_; rotate_left; (focus (intro _ hS; (try dsimp only at hS); go_split_ands; (try subst hS); go_simp; (try (with_reducible rfl)); done)); simp only [Act.put, List.setIfInBounds_toArray, List.set_cons_zero, List.set_cons_succ]))); refine wpPlan.done ?_; clear hHeld
              clear hw
              go_wp2_with fail
              go_roundw
              case rel => exact ⟨q + 1, by omega, by go_num, N0.out, N1.out, N2.out⟩
              case measure => simp [intOf]; omega
            · have he' : ((q : Int) != (j : Int)) = true := by simp; omega
              have he2 : ((q : Int) + 1 != (j : Int) + 1) = true := by simp; omega
              rw [HV.out q he] at c0
              clear he
              go_wp2_with fail
              have hw := wrap_next hl
              refine wp_region_plan (S := fun w' => w' = World.drew _) [(0, true), (1, true), (2, true), (3, true), (4, true), (5, true), (6, true), (7, true), (8, true), (9, true), (10, true), (11, true), (12, true)] 9999 (by kernel_rfl) (by kernel_rfl) (by kernel_rfl) (by kernel_rfl) (by kernel_rfl) (fun _ _ d _ _ h => by cases d <;> exact h) rfl (fun hHeld => ?_); simp only [List.map_cons, List.map_nil, List.getElem?_toArray, List.getElem?_cons_zero, List.getElem?_cons_succ]
              (repeat (first | (refine wpPlan.take (v := undef) (Or.inr ⟨by rfl, rfl⟩) ?_; simp only [Act.put, List.setIfInBounds_toArray, List.set_cons_zero, List.set_cons_succ]) | (refine wpPlan.take (v := ?_) (Or.inl ⟨by rfl, ?_⟩) ?_; rotate_left; (focus (intro _ hS; (try dsimp only at hS); go_split_ands; (try subst hS); go_simp; (try (with_reducible rfl)); done)); simp only [Act.put, List.setIfInBounds_toArray, List.set_cons_zero, List.set_cons_succ]))); refine wpPlan.done ?_; clear hHeld
              clear hw
              go_wp2_with fail
              go_roundw
              case rel => exact ⟨q + 1, by omega, by go_num, N0.out, N1.out, N2.out⟩
              case measure => simp [intOf]; omega
          · obtain rfl : q = 12 := by omega
            have E0 := B0.range
            have E1 := B1.range
            clear B0 B1
            go_wp2_with fail
            have hw := HW.out
            have hwk := HWK.out
            refine wp_region_plan (S := (fun W => W.rangeAt w.heap.size 0 (vl u) ∧ W.rangeAt (w.heap.size + 1) 0 (vl f) ∧ Below w.heap.size w W)) [(0, false), (1, true), (2, true), (3, true), (5, true), (6, true), (8, true), (9, true), (4, false), (7, false), (10, true), (11, true), (12, true), (13, true), (14, true), (15, true), (16, false), (17, true), (18, true)] 9999 (by kernel_rfl) (by kernel_rfl) (by kernel_rfl) (by kernel_rfl) (by kernel_rfl) (fun _ _ d _ _ h => by cases d <;> exact h) ?_ (fun hHeld => ?_); (focus ((go_split_ands; (repeat' (refine And.intro ?_ ?_)); all_goals (first | assumption | ((repeat' (first | assumption | (with_reducible refine cell_drew ?_) | (with_reducible refine cell_next (by assumption) ?_) | ((with_reducible refine cell_new ?_ ?_); (focus (first | rfl | (simp; done))); (focus rfl)) | (with_reducible refine cell_alloc ?_))); done) | ((repeat' (first | assumption | (with_reducible refine (World.rangeAt_drew _ _ _ _).2 ?_) | (with_reducible refine vrange_next (by assumption) ?_) | (refine Blk.range (t := 24) ?_; (first | assumption | ((repeat' (first | assumption | ((with_reducible refine Blk.new' ?_); (first | rfl | (simp; done))) | ((with_reducible refine Blk.newRow ?_); (first | rfl | (simp; done))) | ((with_reducible refine Blk.farRow ?_ ?_ _); rotate_left; (first | (simp; done) | (simp; omega) | omega)) | (with_reducible refine Blk.alloc ?_ _) | (with_reducible refine Blk.drew ?_) | ((with_reducible refine Blk.far ?_ ?_ _); rotate_left; (first | (simp; done) | (simp; omega) | omega)) | (with_reducible refine Blk.next' (by assumption) ?_))); done))) | (with_reducible refine World.rangeAt_alloc ?_ _))); done) | ((repeat' (first | exact Below.refl _ _ | assumption | (with_reducible refine below_alloc' ?_) | (with_reducible refine Below.drew ?_) | (with_reducible refine below_next' (by assumption) ?_) | (with_reducible refine below_setRow ?_ ?_ _) | (with_reducible refine Below.setCell ?_ ?_ _) | (with_reducible refine below_next (by assumption) ?_ ?_) | (with_reducible refine Below.alloc ?_ ?_ _) | exact Nat.le_refl _ | (exact below_size (by assumption)) | (with_reducible refine size_alloc ?_) | (with_reducible refine size_setRow' ?_) | (with_reducible refine size_setCell' ?_) | (with_reducible refine size_next (by assumption) ?_) | omega | (simp; done) | (simp; omega))); done))))); simp only [List.map_cons, List.map_nil, List.getElem?_toArray, List.getElem?_cons_zero, List.getElem?_cons_succ]
            clear E0 E1 BW
            (repeat (first | (refine wpPlan.take (v := undef) (Or.inr ⟨by rfl, rfl⟩) ?_; simp only [Act.put, List.setIfInBounds_toArray, List.set_cons_zero, List.set_cons_succ]) | (refine wpPlan.take (v := .agg (vl ?_).toArray) (yieldsIf_load_mid rfl 24 _ rfl _ _ rfl (vl _) _ ?_ Try.underlying24 rfl (vinfoL _)) ?_; rotate_left; (focus (intro _ hS; (try dsimp only at hS); go_split_ands; assumption)); simp only [Act.put, List.setIfInBounds_toArray, List.set_cons_zero, List.set_cons_succ]) | (refine wpPlan.take (v := ?_) (Or.inl ⟨by rfl, ?_⟩) ?_; rotate_left; (focus (intro _ hS; (try dsimp only at hS); go_split_ands; (try subst hS); go_simp; (try (with_reducible rfl)); done)); simp only [Act.put, List.setIfInBounds_toArray, List.set_cons_zero, List.set_cons_succ]) | (refine wpPlan.carry (fun K hK => ?_); (first | (refine step_buildSlice2 (by rfl) _ _ rfl rfl rfl ?_) | go_simp); (try (first  | (go_at_call 17; refine (alive_any _).mono ?_; rintro e w' ⟨rfl, hb⟩) | (go_at_call 13; (with_reducible refine (C1.out _).mono ?_); rintro e w' ⟨rfl, hb⟩) | (go_at_call 13; (with_reducible refine (C2.out _).mono ?_); rintro e w' ⟨rfl, hb⟩) | (go_at_call 22; (with_reducible refine (C3.out _).mono ?_); rintro e w' ⟨rfl, hb⟩))); (try (go_wp2_with fail)); refine hK.out _ _ ?_ (fun hHeld' => ?_); (focus ((go_split_ands; (repeat' (refine And.intro ?_ ?_)); all_goals (first | assumption | ((repeat' (first | assumption | (with_reducible refine cell_drew ?_) | (with_reducible refine cell_next (by assumption) ?_) | ((with_reducible refine cell_new ?_ ?_); (focus (first | rfl | (simp; done))); (focus rfl)) | (with_reducible refine cell_alloc ?_))); done) | ((repeat' (first | assumption | (with_reducible refine (World.rangeAt_drew _ _ _ _).2 ?_) | (with_reducible refine vrange_next (by assumption) ?_) | (refine Blk.range (t := 24) ?_; (first | assumption | ((repeat' (first | assumption | ((with_reducible refine Blk.new' ?_); (first | rfl | (simp; done))) | ((with_reducible refine Blk.newRow ?_); (first | rfl | (simp; done))) | ((with_reducible refine Blk.farRow ?_ ?_ _); rotate_left; (first | (simp; done) | (simp; omega) | omega)) | (with_reducible refine Blk.alloc ?_ _) | (with_reducible refine Blk.drew ?_) | ((with_reducible refine Blk.far ?_ ?_ _); rotate_left; (first | (simp; done) | (simp; omega) | omega)) | (with_reducible refine Blk.next' (by assumption) ?_))); done))) | (with_reducible refine World.rangeAt_alloc ?_ _))); done) | ((repeat' (first | exact Below.refl _ _ | assumption | (with_reducible refine below_alloc' ?_) | (with_reducible refine Below.drew ?_) | (with_reducible refine below_next' (by assumption) ?_) | (with_reducible refine below_setRow ?_ ?_ _) | (with_reducible refine Below.setCell ?_ ?_ _) | (with_reducible refine below_next (by assumption) ?_ ?_) | (with_reducible refine Below.alloc ?_ ?_ _) | exact Nat.le_refl _ | (exact below_size (by assumption)) | (with_reducible refine size_alloc ?_) | (with_reducible refine size_setRow' ?_) | (with_reducible refine size_setCell' ?_) | (with_reducible refine size_next (by assumption) ?_) | omega | (simp; done) | (simp; omega))); done))))); clear hK K hHeld; have hHeld := hHeld'; clear hHeld'; (try clear hb); (try simp only [Act.put, List.setIfInBounds_toArray, List.set_cons_zero, List.set_cons_succ])))); refine wpPlan.done ?_
            have hE := hHeld.2.2
            clear hHeld hw hwk
            go_wp2_with fail
            go_ret
            exact ⟨rfl, hE⟩

theorem chain_walk (f : Nat → Nat) (node : Int) (m : Nat) (w : World) (hm : m < 256) :
    Calls Try.prog 7 #[.agg (vl f).toArray, .int .i64 node, .int .u8 m] w fun e w' => e = .returned (.bool true) ∧ Below w.heap.size w w' := by
  cases hn : nodeB node with
  | false => exact chain_no f node m w hn hm
  | true =>
    obtain ⟨j, hj, rfl⟩ := node_of hn
    exact chain_yes f j m w hj hm

set_option maxRecDepth 100000 in
theorem chain_lifted (os : Os) (started : os.Started) (H : Type) (enc : TypeId × Value → H) :
    ReturnsInHanded {} Try.checked os 7 .any (Rows.clockChainSpec.pre6 enc Try.prog Try.f7 Rows.clockChainRow.domain false) (Rows.clockChainSpec.post enc Try.prog Try.f7 false true false false) := by
  refine law_lift (C := Try.checked) own_knob started (by kernel_rfl) Try.func7 rfl Try.underlying4 laid_out (by kernel_rfl) rfl ?_
    (ChangeSpec.witness6 (enc := enc) (C := Try.checked) false ⟨#[], #[.agg #[.int .u32 0, .int .u32 0, .int .u32 0, .int .u32 0, .int .u32 0, .int .u32 0, .int .u32 0, .int .u32 0, .int .u32 0, .int .u32 0, .int .u32 0, .int .u32 0], .int .i64 0, .int .u8 0], []⟩ 8 (by kernel_rfl) (by kernel_rfl) (by kernel_rfl) (by kernel_rfl)) ?_
  · intro ds hds
    match ds, hds with
    | [_, _, _], _ => rfl
  intro W base args ds ps hval hA hlt hsz
  rw [Try.params7] at hA hval
  obtain ⟨v0, vs0, d0, ds0, p0, q0, hargs, rfl, rfl, h0, r0⟩ := trodAll_cons hA
  obtain ⟨v1, vs1, d1, ds1, p1, q1, rfl, rfl, rfl, h1, r1⟩ := trodAll_cons r0
  obtain ⟨v2, vs2, d2, ds2, p2, q2, rfl, rfl, rfl, h2, r2⟩ := trodAll_cons r1
  obtain ⟨rfl, rfl, rfl⟩ := trodAll_nil r2
  obtain rfl : args = #[v0, v1, v2] := by cases args; simp_all
  obtain ⟨f, rfl, hf⟩ := open_vec (hval 0 24 v0 rfl rfl) h0
  obtain ⟨a1, rfl, rfl, rfl, w1⟩ := open_int Try.underlying3 (hval 1 3 v1 rfl rfl) h1
  obtain ⟨a2, rfl, rfl, rfl, w2⟩ := open_int Try.underlying5 (hval 2 5 v2 rfl rfl) h2
  exact (by
    have hb := bounds_u8 w2
    obtain ⟨m, rfl⟩ : ∃ m : Nat, a2 = (m : Int) := ⟨a2.toNat, by omega⟩
    exact chain_walk f a1 m W (by omega))

theorem chain_holds : Rows.ClockChainSaid :=
  OpenClaim.holds_of_wide 7 Try.f7 rfl rfl rfl rfl rfl rfl rfl ⟨rfl, rfl, rfl, rfl, rfl⟩ rfl rfl rfl rfl rfl (by kernel_rfl) Try.func7 (by kernel_rfl)
    (of_decide_eq_true (by kernel_rfl)) (by unfold Func.isWrapper; first | (rw [if_pos (by decide +kernel)]; kernel_rfl) | (rw [if_neg (by decide +kernel)]; exact ⟨rfl, rfl⟩))
    (fun os started H enc _ => chain_lifted os started H enc)

end Go.Proofs.Ytjloendkkmkhhaa

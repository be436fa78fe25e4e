/-
op.parts, May, Customers.
-/
import Derived.Test.YtgnfachjobohoaaOp
namespace Go.Proofs.Ytgnfachjobohoaa
open Go.RowKit
attribute [local go_sem] run_store_f64

def partsO (o : OpR) : OpR := ⟨o.k, if hasS o.k then o.s else 0, if hasQ o.k then o.q else 0, if hasP o.k then o.p else 0⟩
set_option maxRecDepth 20000 in
set_option maxHeartbeats 4000000 in
theorem parts_op (o : OpR) (W : World) : Calls Try.prog 48 #[.agg o.cells.toArray] W fun e W' => e = .returned (.agg (partsO o).cells.toArray) ∧ Below W.heap.size W W' := by
  have hi : (Try.prog.info? 40).map (·.size) = some 4 := by kernel_rfl
  unfold partsO
  rw [op_arr, op_arr]
  cases h1 : hasS o.k <;> cases h2 : hasQ o.k <;> cases h3 : hasP o.k
  all_goals
    simp only [if_true, if_false, Bool.false_eq_true]
    go_enter Try.func48, Try.ntmps48
    go_wp2_with (first | (go_at_call 52; refine (hassku_any _ _).mono ?_; rintro e w1 ⟨rfl, rfl⟩; rw [h1]) | (go_at_call 53; refine (hasqty_any _ _).mono ?_; rintro e w1 ⟨rfl, rfl⟩; rw [h2]) | (go_at_call 55; refine (hasprice_any _ _).mono ?_; rintro e w1 ⟨rfl, rfl⟩; rw [h3]))
    refine bodyPost_row (t := 40) #[.int .i64 _, .int .i64 _, .int .i64 _, .float .f64 _] rfl rfl rfl Try.underlying40 rfl hi (by (first | assumption | ((repeat' (first | assumption | ((with_reducible refine Blk.new' ?_); (first | rfl | (simp; done))) | ((with_reducible refine Blk.newRow ?_); (first | rfl | (simp; done))) | ((with_reducible refine Blk.farRow ?_ ?_ _); rotate_left; (first | (simp; done) | (simp; omega) | omega)) | (with_reducible refine Blk.alloc ?_ _) | (with_reducible refine Blk.drew ?_) | ((with_reducible refine Blk.far ?_ ?_ _); rotate_left; (first | (simp; done) | (simp; omega) | omega)) | (with_reducible refine Blk.next' (by assumption) ?_))); done))) ⟨rfl, by (repeat' (first | exact Below.refl _ _ | assumption | (with_reducible refine below_alloc' ?_) | (with_reducible refine Below.drew ?_) | (with_reducible refine below_next' (by assumption) ?_) | (with_reducible refine below_setRow ?_ ?_ _) | (with_reducible refine Below.setCell ?_ ?_ _) | (with_reducible refine below_next (by assumption) ?_ ?_) | (with_reducible refine Below.alloc ?_ ?_ _) | exact Nat.le_refl _ | (exact below_size (by assumption)) | (with_reducible refine size_alloc ?_) | (with_reducible refine size_setRow' ?_) | (with_reducible refine size_setCell' ?_) | (with_reducible refine size_next (by assumption) ?_) | omega | (simp; done) | (simp; omega)))⟩
def bodyB (o : OpR) : Bool :=
  if o.k = 1 then withinB o.s 1 40 && withinB o.q 1 1000 else if o.k = 2 then withinB o.s 1 40 && (withinB o.q (-1000) 1000 && (o.q != 0)) else if o.k = 5 then withinB o.s 1 40 && withinB o.q 1 3 else if o.k = 3 ∨ o.k = 6 then withinB o.s 1 40 else decide (o.k = 4)
/-- May an op be? -/
def mayO (o : OpR) : Bool := sameO o (partsO o) && bodyB o

section
variable (o : OpR) (W : World)
set_option maxRecDepth 20000 in
set_option maxHeartbeats 4000000 in
theorem may_no (h : sameO o (partsO o) = false) : Calls Try.prog 27 #[.agg o.cells.toArray] W fun e W' => e = .returned (.bool false) ∧ Below W.heap.size W W' := by
  have bA := Blk.new W 40 o.cells.toArray
  have hB0 := (Below.refl W.heap.size W).alloc (Nat.le_refl _) (.cells o.cells.toArray 40)
  have ro := bA.range
  have HS := Lib.hid (sameop_any o (partsO o))
  rw [h] at HS
  clear bA h
  go_enter Try.func27, Try.ntmps27
  go_wp2_with fail
  obtain ⟨W1, hw⟩ : ∃ W1, W1 = W.alloc (.cells o.cells.toArray 40) := ⟨_, rfl⟩
  rw [← hw] at hB0 ro ⊢
  clear hw
  refine wp_region_tree (S := (fun W' => Below (W1).heap.size W1 W')) (.take 0 (.take 1 (.one 2 (.one 3 (.take 4 .nil))))) 9999 (by kernel_rfl) (by kernel_rfl) (by kernel_rfl) (by kernel_rfl) (by kernel_rfl) (fun _ _ d _ _ h => by cases d <;> exact h) ?_ (fun hHeld => ?_); (focus (exact (Below.refl _ _).drew)); simp only [Tree.map, List.getElem?_toArray, List.getElem?_cons_zero, List.getElem?_cons_succ]
  (repeat (first | (refine wpTree.take (v := undef) (Or.inr ⟨by rfl, rfl⟩) ?_; simp only [Act.put, List.setIfInBounds_toArray, List.set_cons_zero, List.set_cons_succ]) | (refine wpTree.take (v := .agg (vl ?_).toArray) (yieldsIf_load_mid rfl 24 _ rfl _ _ rfl (vl _) _ ?_ Try.underlying24 rfl (vinfoL _)) ?_; rotate_left; (focus (intro _ hS; refine range_next hS ?_; assumption)); simp only [Act.put, List.setIfInBounds_toArray, List.set_cons_zero, List.set_cons_succ]) | (refine wpTree.take (v := .agg (Lab.cells ?_).toArray) (yieldsIf_load_mid rfl 59 _ rfl _ _ rfl (Lab.cells _) _ ?_ Try.underlying59 rfl (linfo _)) ?_; rotate_left; (focus (intro _ hS; refine range_next hS ?_; assumption)); simp only [Act.put, List.setIfInBounds_toArray, List.set_cons_zero, List.set_cons_succ]) | (refine wpTree.take (v := .agg (OpR.cells ?_).toArray) (yieldsIf_load_mid rfl 40 _ rfl _ _ rfl (OpR.cells _) _ ?_ Try.underlying40 rfl (oinfo _)) ?_; rotate_left; (focus (intro _ hS; refine range_next hS ?_; assumption)); simp only [Act.put, List.setIfInBounds_toArray, List.set_cons_zero, List.set_cons_succ]) | (refine wpTree.take (v := ?_) (Or.inl ⟨by rfl, ?_⟩) ?_; rotate_left; (focus (intro _ hS; (try dsimp only at hS); go_split_ands; (try subst hS); go_simp; (try (with_reducible rfl)); done)); simp only [Act.put, List.setIfInBounds_toArray, List.set_cons_zero, List.set_cons_succ])))
  refine wpTree.one (fun K hK => ?_)
  go_simp
  go_at_call 48
  refine (parts_op o _).mono ?_
  rintro e W2 ⟨rfl, hbW2⟩
  have hBelow := Below.trans hHeld (hbW2.mono (Below.size hHeld))
  refine hK.out _ _ hBelow (fun hHeld' => ?_)
  clear hK K hHeld hbW2 hBelow
  have hHeld := hHeld'
  clear hHeld'
  (repeat (first | (refine wpTree.take (v := undef) (Or.inr ⟨by rfl, rfl⟩) ?_; simp only [Act.put, List.setIfInBounds_toArray, List.set_cons_zero, List.set_cons_succ]) | (refine wpTree.take (v := .agg (vl ?_).toArray) (yieldsIf_load_mid rfl 24 _ rfl _ _ rfl (vl _) _ ?_ Try.underlying24 rfl (vinfoL _)) ?_; rotate_left; (focus (intro _ hS; refine range_next hS ?_; assumption)); simp only [Act.put, List.setIfInBounds_toArray, List.set_cons_zero, List.set_cons_succ]) | (refine wpTree.take (v := .agg (Lab.cells ?_).toArray) (yieldsIf_load_mid rfl 59 _ rfl _ _ rfl (Lab.cells _) _ ?_ Try.underlying59 rfl (linfo _)) ?_; rotate_left; (focus (intro _ hS; refine range_next hS ?_; assumption)); simp only [Act.put, List.setIfInBounds_toArray, List.set_cons_zero, List.set_cons_succ]) | (refine wpTree.take (v := .agg (OpR.cells ?_).toArray) (yieldsIf_load_mid rfl 40 _ rfl _ _ rfl (OpR.cells _) _ ?_ Try.underlying40 rfl (oinfo _)) ?_; rotate_left; (focus (intro _ hS; refine range_next hS ?_; assumption)); simp only [Act.put, List.setIfInBounds_toArray, List.set_cons_zero, List.set_cons_succ]) | (refine wpTree.take (v := ?_) (Or.inl ⟨by rfl, ?_⟩) ?_; rotate_left; (focus (intro _ hS; (try dsimp only at hS); go_split_ands; (try subst hS); go_simp; (try (with_reducible rfl)); done)); simp only [Act.put, List.setIfInBounds_toArray, List.set_cons_zero, List.set_cons_succ])))
  refine wpTree.one (fun K hK => ?_)
  go_simp
  go_at_call 46
  refine (HS.out _).mono ?_
  rintro e W3 ⟨rfl, hbW3⟩
  have hBelow := Below.trans hHeld (hbW3.mono (Below.size hHeld))
  refine hK.out _ _ hBelow (fun hHeld' => ?_)
  clear hK K hHeld hbW3 hBelow
  have hHeld := hHeld'
  clear hHeld'
  (repeat (first | (refine wpTree.take (v := undef) (Or.inr ⟨by rfl, rfl⟩) ?_; simp only [Act.put, List.setIfInBounds_toArray, List.set_cons_zero, List.set_cons_succ]) | (refine wpTree.take (v := .agg (vl ?_).toArray) (yieldsIf_load_mid rfl 24 _ rfl _ _ rfl (vl _) _ ?_ Try.underlying24 rfl (vinfoL _)) ?_; rotate_left; (focus (intro _ hS; refine range_next hS ?_; assumption)); simp only [Act.put, List.setIfInBounds_toArray, List.set_cons_zero, List.set_cons_succ]) | (refine wpTree.take (v := .agg (Lab.cells ?_).toArray) (yieldsIf_load_mid rfl 59 _ rfl _ _ rfl (Lab.cells _) _ ?_ Try.underlying59 rfl (linfo _)) ?_; rotate_left; (focus (intro _ hS; refine range_next hS ?_; assumption)); simp only [Act.put, List.setIfInBounds_toArray, List.set_cons_zero, List.set_cons_succ]) | (refine wpTree.take (v := .agg (OpR.cells ?_).toArray) (yieldsIf_load_mid rfl 40 _ rfl _ _ rfl (OpR.cells _) _ ?_ Try.underlying40 rfl (oinfo _)) ?_; rotate_left; (focus (intro _ hS; refine range_next hS ?_; assumption)); simp only [Act.put, List.setIfInBounds_toArray, List.set_cons_zero, List.set_cons_succ]) | (refine wpTree.take (v := ?_) (Or.inl ⟨by rfl, ?_⟩) ?_; rotate_left; (focus (intro _ hS; (try dsimp only at hS); go_split_ands; (try subst hS); go_simp; (try (with_reducible rfl)); done)); simp only [Act.put, List.setIfInBounds_toArray, List.set_cons_zero, List.set_cons_succ])))
  refine wpTree.done ?_
  have HF := Lib.hid (hB0.trans (hHeld.mono hB0.size))
  clear hHeld hB0 ro HS
  go_wp2_with fail
  go_ret
  exact ⟨rfl, HF.out⟩
set_option maxRecDepth 20000 in
set_option maxHeartbeats 8000000 in
theorem may_yes (h : sameO o (partsO o) = true) : Calls Try.prog 27 #[.agg o.cells.toArray] W fun e W' => e = .returned (.bool (bodyB o)) ∧ Below W.heap.size W W' := by
  have bA := Blk.new W 40 o.cells.toArray
  have hB0 := (Below.refl W.heap.size W).alloc (Nat.le_refl _) (.cells o.cells.toArray 40)
  have HS := Lib.hid (sameop_any o (partsO o))
  rw [h] at HS
  clear h
  go_enter Try.func27, Try.ntmps27
  go_wp2_with fail
  obtain ⟨W1, hw⟩ : ∃ W1, W1 = W.alloc (.cells o.cells.toArray 40) := ⟨_, rfl⟩
  rw [← hw] at hB0 bA ⊢
  have ro := bA.range
  clear hw
  refine wp_region_tree (S := (fun W' => Below (W1).heap.size W1 W')) (.take 0 (.take 1 (.one 2 (.one 3 (.take 4 .nil))))) 9999 (by kernel_rfl) (by kernel_rfl) (by kernel_rfl) (by kernel_rfl) (by kernel_rfl) (fun _ _ d _ _ h => by cases d <;> exact h) ?_ (fun hHeld => ?_); (focus (exact (Below.refl _ _).drew)); simp only [Tree.map, List.getElem?_toArray, List.getElem?_cons_zero, List.getElem?_cons_succ]
  (repeat (first | (refine wpTree.take (v := undef) (Or.inr ⟨by rfl, rfl⟩) ?_; simp only [Act.put, List.setIfInBounds_toArray, List.set_cons_zero, List.set_cons_succ]) | (refine wpTree.take (v := .agg (vl ?_).toArray) (yieldsIf_load_mid rfl 24 _ rfl _ _ rfl (vl _) _ ?_ Try.underlying24 rfl (vinfoL _)) ?_; rotate_left; (focus (intro _ hS; refine range_next hS ?_; assumption)); simp only [Act.put, List.setIfInBounds_toArray, List.set_cons_zero, List.set_cons_succ]) | (refine wpTree.take (v := .agg (Lab.cells ?_).toArray) (yieldsIf_load_mid rfl 59 _ rfl _ _ rfl (Lab.cells _) _ ?_ Try.underlying59 rfl (linfo _)) ?_; rotate_left; (focus (intro _ hS; refine range_next hS ?_; assumption)); simp only [Act.put, List.setIfInBounds_toArray, List.set_cons_zero, List.set_cons_succ]) | (refine wpTree.take (v := .agg (OpR.cells ?_).toArray) (yieldsIf_load_mid rfl 40 _ rfl _ _ rfl (OpR.cells _) _ ?_ Try.underlying40 rfl (oinfo _)) ?_; rotate_left; (focus (intro _ hS; refine range_next hS ?_; assumption)); simp only [Act.put, List.setIfInBounds_toArray, List.set_cons_zero, List.set_cons_succ]) | (refine wpTree.take (v := ?_) (Or.inl ⟨by rfl, ?_⟩) ?_; rotate_left; (focus (intro _ hS; (try dsimp only at hS); go_split_ands; (try subst hS); go_simp; (try (with_reducible rfl)); done)); simp only [Act.put, List.setIfInBounds_toArray, List.set_cons_zero, List.set_cons_succ])))
  refine wpTree.one (fun K hK => ?_)
  go_simp
  go_at_call 48
  refine (parts_op o _).mono ?_
  rintro e W2 ⟨rfl, hbW2⟩
  have hBelow := Below.trans hHeld (hbW2.mono (Below.size hHeld))
  refine hK.out _ _ hBelow (fun hHeld' => ?_)
  clear hK K hHeld hbW2 hBelow
  have hHeld := hHeld'
  clear hHeld'
  (repeat (first | (refine wpTree.take (v := undef) (Or.inr ⟨by rfl, rfl⟩) ?_; simp only [Act.put, List.setIfInBounds_toArray, List.set_cons_zero, List.set_cons_succ]) | (refine wpTree.take (v := .agg (vl ?_).toArray) (yieldsIf_load_mid rfl 24 _ rfl _ _ rfl (vl _) _ ?_ Try.underlying24 rfl (vinfoL _)) ?_; rotate_left; (focus (intro _ hS; refine range_next hS ?_; assumption)); simp only [Act.put, List.setIfInBounds_toArray, List.set_cons_zero, List.set_cons_succ]) | (refine wpTree.take (v := .agg (Lab.cells ?_).toArray) (yieldsIf_load_mid rfl 59 _ rfl _ _ rfl (Lab.cells _) _ ?_ Try.underlying59 rfl (linfo _)) ?_; rotate_left; (focus (intro _ hS; refine range_next hS ?_; assumption)); simp only [Act.put, List.setIfInBounds_toArray, List.set_cons_zero, List.set_cons_succ]) | (refine wpTree.take (v := .agg (OpR.cells ?_).toArray) (yieldsIf_load_mid rfl 40 _ rfl _ _ rfl (OpR.cells _) _ ?_ Try.underlying40 rfl (oinfo _)) ?_; rotate_left; (focus (intro _ hS; refine range_next hS ?_; assumption)); simp only [Act.put, List.setIfInBounds_toArray, List.set_cons_zero, List.set_cons_succ]) | (refine wpTree.take (v := ?_) (Or.inl ⟨by rfl, ?_⟩) ?_; rotate_left; (focus (intro _ hS; (try dsimp only at hS); go_split_ands; (try subst hS); go_simp; (try (with_reducible rfl)); done)); simp only [Act.put, List.setIfInBounds_toArray, List.set_cons_zero, List.set_cons_succ])))
  refine wpTree.one (fun K hK => ?_)
  go_simp
  go_at_call 46
  refine (HS.out _).mono ?_
  rintro e W3 ⟨rfl, hbW3⟩
  have hBelow := Below.trans hHeld (hbW3.mono (Below.size hHeld))
  refine hK.out _ _ hBelow (fun hHeld' => ?_)
  clear hK K hHeld hbW3 hBelow
  have hHeld := hHeld'
  clear hHeld'
  (repeat (first | (refine wpTree.take (v := undef) (Or.inr ⟨by rfl, rfl⟩) ?_; simp only [Act.put, List.setIfInBounds_toArray, List.set_cons_zero, List.set_cons_succ]) | (refine wpTree.take (v := .agg (vl ?_).toArray) (yieldsIf_load_mid rfl 24 _ rfl _ _ rfl (vl _) _ ?_ Try.underlying24 rfl (vinfoL _)) ?_; rotate_left; (focus (intro _ hS; refine range_next hS ?_; assumption)); simp only [Act.put, List.setIfInBounds_toArray, List.set_cons_zero, List.set_cons_succ]) | (refine wpTree.take (v := .agg (Lab.cells ?_).toArray) (yieldsIf_load_mid rfl 59 _ rfl _ _ rfl (Lab.cells _) _ ?_ Try.underlying59 rfl (linfo _)) ?_; rotate_left; (focus (intro _ hS; refine range_next hS ?_; assumption)); simp only [Act.put, List.setIfInBounds_toArray, List.set_cons_zero, List.set_cons_succ]) | (refine wpTree.take (v := .agg (OpR.cells ?_).toArray) (yieldsIf_load_mid rfl 40 _ rfl _ _ rfl (OpR.cells _) _ ?_ Try.underlying40 rfl (oinfo _)) ?_; rotate_left; (focus (intro _ hS; refine range_next hS ?_; assumption)); simp only [Act.put, List.setIfInBounds_toArray, List.set_cons_zero, List.set_cons_succ]) | (refine wpTree.take (v := ?_) (Or.inl ⟨by rfl, ?_⟩) ?_; rotate_left; (focus (intro _ hS; (try dsimp only at hS); go_split_ands; (try subst hS); go_simp; (try (with_reducible rfl)); done)); simp only [Act.put, List.setIfInBounds_toArray, List.set_cons_zero, List.set_cons_succ])))
  refine wpTree.done ?_
  have HF := Lib.hid (hB0.trans (hHeld.mono hB0.size))
  have b3 := bA.next hHeld
  have c0 := (b3.cell 0).trans ((List.getElem?_toArray ..).trans op_0)
  have c1 := (b3.cell 1).trans ((List.getElem?_toArray ..).trans op_1)
  have c2 := (b3.cell 2).trans ((List.getElem?_toArray ..).trans op_2)
  clear hHeld hB0 ro HS bA b3
  by_cases hk : o.k = 1
  · have e1 : (o.k == 1) = true := by simp [hk]
    have e2 : (o.k == 2) = false := by simp [hk]
    have e5 : (o.k == 5) = false := by simp [hk]
    have e3 : (o.k == 3) = false := by simp [hk]
    have e6 : (o.k == 6) = false := by simp [hk]
    have e4 : (o.k == 4) = false := by simp [hk]
    cases hs : withinB o.s 1 40 with
    | false =>
      have HB := Lib.hid (show bodyB o = false by unfold bodyB; rw [hk, hs]; rfl)
      clear hk
      go_wp2_with (first | (go_at_call 49; refine (within_any _ _ _ _).mono ?_; rintro e w1 ⟨rfl, rfl⟩; (try rw [hs]); (try rw [hq])))
      go_ret
      exact ⟨by first | (rw [HB.out]; done) | (rw [HB.out]; rfl), HF.out⟩
    | true =>
      have HB := Lib.hid (show bodyB o = withinB o.q 1 1000 by unfold bodyB; rw [hk, hs]; rfl)
      clear hk
      go_wp2_with (first | (go_at_call 49; refine (within_any _ _ _ _).mono ?_; rintro e w1 ⟨rfl, rfl⟩; (try rw [hs]); (try rw [hq])))
      go_ret
      exact ⟨by first | (rw [HB.out]; done) | (rw [HB.out]; rfl), HF.out⟩
  have n1 := hk
  clear hk
  by_cases hk : o.k = 2
  · have e1 : (o.k == 1) = false := by simp [hk]
    have e2 : (o.k == 2) = true := by simp [hk]
    have e5 : (o.k == 5) = false := by simp [hk]
    have e3 : (o.k == 3) = false := by simp [hk]
    have e6 : (o.k == 6) = false := by simp [hk]
    have e4 : (o.k == 4) = false := by simp [hk]
    cases hs : withinB o.s 1 40 with
    | false =>
      have HB := Lib.hid (show bodyB o = false by unfold bodyB; rw [hk, hs]; rfl)
      clear hk
      go_wp2_with (first | (go_at_call 49; refine (within_any _ _ _ _).mono ?_; rintro e w1 ⟨rfl, rfl⟩; (try rw [hs]); (try rw [hq])))
      go_ret
      exact ⟨by first | (rw [HB.out]; done) | (rw [HB.out]; rfl), HF.out⟩
    | true =>
      cases hq : withinB o.q (-1000) 1000 with
      | false =>
        have HB := Lib.hid (show bodyB o = false by unfold bodyB; rw [hk, hs, hq]; rfl)
        clear hk
        go_wp2_with (first | (go_at_call 49; refine (within_any _ _ _ _).mono ?_; rintro e w1 ⟨rfl, rfl⟩; (try rw [hs]); (try rw [hq])))
        go_ret
        exact ⟨by first | (rw [HB.out]; done) | (rw [HB.out]; rfl), HF.out⟩
      | true =>
        have HB := Lib.hid (show bodyB o = (o.q != 0) by unfold bodyB; rw [hk, hs, hq]; rfl)
        clear hk
        go_wp2_with (first | (go_at_call 49; refine (within_any _ _ _ _).mono ?_; rintro e w1 ⟨rfl, rfl⟩; (try rw [hs]); (try rw [hq])))
        go_ret
        exact ⟨by first | (rw [HB.out]; done) | (rw [HB.out]; rfl), HF.out⟩
  have n2 := hk
  clear hk
  by_cases hk : o.k = 5
  · have e1 : (o.k == 1) = false := by simp [hk]
    have e2 : (o.k == 2) = false := by simp [hk]
    have e5 : (o.k == 5) = true := by simp [hk]
    have e3 : (o.k == 3) = false := by simp [hk]
    have e6 : (o.k == 6) = false := by simp [hk]
    have e4 : (o.k == 4) = false := by simp [hk]
    cases hs : withinB o.s 1 40 with
    | false =>
      have HB := Lib.hid (show bodyB o = false by unfold bodyB; rw [hk, hs]; rfl)
      clear hk
      go_wp2_with (first | (go_at_call 49; refine (within_any _ _ _ _).mono ?_; rintro e w1 ⟨rfl, rfl⟩; (try rw [hs]); (try rw [hq])))
      go_ret
      exact ⟨by first | (rw [HB.out]; done) | (rw [HB.out]; rfl), HF.out⟩
    | true =>
      have HB := Lib.hid (show bodyB o = withinB o.q 1 3 by unfold bodyB; rw [hk, hs]; rfl)
      clear hk
      go_wp2_with (first | (go_at_call 49; refine (within_any _ _ _ _).mono ?_; rintro e w1 ⟨rfl, rfl⟩; (try rw [hs]); (try rw [hq])))
      go_ret
      exact ⟨by first | (rw [HB.out]; done) | (rw [HB.out]; rfl), HF.out⟩
  have n5 := hk
  clear hk
  by_cases hk : o.k = 3
  · have e1 : (o.k == 1) = false := by simp [hk]
    have e2 : (o.k == 2) = false := by simp [hk]
    have e5 : (o.k == 5) = false := by simp [hk]
    have e3 : (o.k == 3) = true := by simp [hk]
    have e6 : (o.k == 6) = false := by simp [hk]
    have e4 : (o.k == 4) = false := by simp [hk]
    have HB := Lib.hid (show bodyB o = withinB o.s 1 40 by unfold bodyB; rw [hk]; rfl)
    clear hk
    go_wp2_with (first | (go_at_call 49; refine (within_any _ _ _ _).mono ?_; rintro e w1 ⟨rfl, rfl⟩; (try rw [hs]); (try rw [hq])))
    go_ret
    exact ⟨by first | (rw [HB.out]; done) | (rw [HB.out]; rfl), HF.out⟩
  have n3 := hk
  clear hk
  by_cases hk : o.k = 6
  · have e1 : (o.k == 1) = false := by simp [hk]
    have e2 : (o.k == 2) = false := by simp [hk]
    have e5 : (o.k == 5) = false := by simp [hk]
    have e3 : (o.k == 3) = false := by simp [hk]
    have e6 : (o.k == 6) = true := by simp [hk]
    have e4 : (o.k == 4) = false := by simp [hk]
    have HB := Lib.hid (show bodyB o = withinB o.s 1 40 by unfold bodyB; rw [hk]; rfl)
    clear hk
    go_wp2_with (first | (go_at_call 49; refine (within_any _ _ _ _).mono ?_; rintro e w1 ⟨rfl, rfl⟩; (try rw [hs]); (try rw [hq])))
    go_ret
    exact ⟨by first | (rw [HB.out]; done) | (rw [HB.out]; rfl), HF.out⟩
  have n6 := hk
  clear hk
  by_cases hk : o.k = 4
  · have e1 : (o.k == 1) = false := by simp [hk]
    have e2 : (o.k == 2) = false := by simp [hk]
    have e5 : (o.k == 5) = false := by simp [hk]
    have e3 : (o.k == 3) = false := by simp [hk]
    have e6 : (o.k == 6) = false := by simp [hk]
    have e4 : (o.k == 4) = true := by simp [hk]
    have HB := Lib.hid (show bodyB o = true by unfold bodyB; rw [hk]; rfl)
    clear hk
    go_wp2_with (first | (go_at_call 49; refine (within_any _ _ _ _).mono ?_; rintro e w1 ⟨rfl, rfl⟩; (try rw [hs]); (try rw [hq])))
    go_ret
    exact ⟨by first | (rw [HB.out]; done) | (rw [HB.out]; rfl), HF.out⟩
  have n4 := hk
  clear hk
  have e1 : (o.k == 1) = false := by simpa using n1
  have e2 : (o.k == 2) = false := by simpa using n2
  have e5 : (o.k == 5) = false := by simpa using n5
  have e3 : (o.k == 3) = false := by simpa using n3
  have e6 : (o.k == 6) = false := by simpa using n6
  have e4 : (o.k == 4) = false := by simpa using n4
  have HB := Lib.hid (show bodyB o = false by unfold bodyB; rw [if_neg n1, if_neg n2, if_neg n5, if_neg (by rintro (h | h); exact n3 h; exact n6 h)]; simpa using n4)
  clear n1 n2 n5 n3 n6 n4
  go_wp2_with (first | (go_at_call 49; refine (within_any _ _ _ _).mono ?_; rintro e w1 ⟨rfl, rfl⟩; (try rw [hs]); (try rw [hq])))
  go_ret
  exact ⟨by first | (rw [HB.out]; done) | (rw [HB.out]; rfl), HF.out⟩
theorem may_any : Calls Try.prog 27 #[.agg o.cells.toArray] W fun e W' => e = .returned (.bool (mayO o)) ∧ Below W.heap.size W W' := by
  unfold mayO
  cases h : sameO o (partsO o) with
  | false => rw [Bool.false_and]; exact may_no o W h
  | true => rw [Bool.true_and]; exact may_yes o W h
end
end Go.Proofs.Ytgnfachjobohoaa

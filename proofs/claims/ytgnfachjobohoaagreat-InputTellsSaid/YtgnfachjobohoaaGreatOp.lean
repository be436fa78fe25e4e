/-
Ops: their cells; within, hasSku, hasQty, hasPrice, sameOp, parts, May, Customers.
op.parts, May, Customers.
op.Customers; events: Right, Same; PutOp, Put.
op.GetOp.
Events there and back; op.Get.
-/
import Derived.Test.YtgnfachjobohoaaGreatLPut
namespace Go.Proofs.YtgnfachjobohoaaGreat
open Go.RowKit

/-- An op: of a price the bits. -/
structure OpR where
  (k s q : Int)
  (p : Nat)
def OpR.cells (o : OpR) : List Value := [.int .i64 o.k, .int .i64 o.s, .int .i64 o.q, .float .f64 o.p]
theorem op_len {o : OpR} : o.cells.length = 4 := rfl
theorem op_arr (o : OpR) : o.cells.toArray = #[.int .i64 o.k, .int .i64 o.s, .int .i64 o.q, .float .f64 o.p] := rfl
theorem op_0 {o : OpR} : o.cells[0]? = some (.int .i64 o.k) := rfl
theorem op_1 {o : OpR} : o.cells[1]? = some (.int .i64 o.s) := rfl
theorem op_2 {o : OpR} : o.cells[2]? = some (.int .i64 o.q) := rfl
theorem op_3 {o : OpR} : o.cells[3]? = some (.float .f64 o.p) := rfl
theorem op_cells (o : OpR) : o.cells = [.int .i64 o.k, .int .i64 o.s, .int .i64 o.q, .float .f64 o.p] := rfl
theorem op_one (o : OpR) : o.cells.toArray.all (·.oneCell') = true := by unfold OpR.cells; simp [Value.oneCell']
attribute [irreducible] OpR.cells
theorem oinfo (o : OpR) : (Tryz.prog.info? 46).map (·.size) = some o.cells.length := by rw [op_len]; kernel_rfl
theorem oinfoA (o : OpR) : (Tryz.prog.info? 46).map (·.size) = some o.cells.toArray.size := by rw [List.size_toArray, op_len]; kernel_rfl

def withinB (n a b : Int) : Bool := decide (a ≤ n) && decide (n ≤ b)
theorem within_any (n a b : Int) (W : World) : Calls Tryz.prog 72 #[.int .i64 n, .int .i64 a, .int .i64 b] W fun e W' => e = .returned (.bool (withinB n a b)) ∧ W = W' := by
  unfold withinB
  cases h1 : decide (a ≤ n) with
  | true =>
    rw [Bool.true_and]
    go_enter Tryz.func72, Tryz.ntmps72
    go_wp2_with fail
    go_ret
    exact ⟨rfl, rfl⟩
  | false =>
    rw [Bool.false_and]
    go_enter Tryz.func72, Tryz.ntmps72
    go_wp2_with fail
    go_ret
    exact ⟨rfl, rfl⟩
def hasS (k : Int) : Bool := k != 4
def hasQ (k : Int) : Bool := (k == 1) || ((k == 2) || (k == 5))
def hasP (k : Int) : Bool := k == 6
theorem hassku_any (k : Int) (W : World) : Calls Tryz.prog 80 #[.int .i64 k] W fun e W' => e = .returned (.bool (hasS k)) ∧ W = W' := by
  go_enter Tryz.func80, Tryz.ntmps80
  go_wp2_with fail
  go_ret
  exact ⟨rfl, rfl⟩
theorem hasprice_any (k : Int) (W : World) : Calls Tryz.prog 83 #[.int .i64 k] W fun e W' => e = .returned (.bool (hasP k)) ∧ W = W' := by
  go_enter Tryz.func83, Tryz.ntmps83
  go_wp2_with fail
  go_ret
  exact ⟨rfl, rfl⟩
theorem hasqty_any (k : Int) (W : World) : Calls Tryz.prog 81 #[.int .i64 k] W fun e W' => e = .returned (.bool (hasQ k)) ∧ W = W' := by
  unfold hasQ
  cases h1 : (k == 1) with
  | true =>
    go_enter Tryz.func81, Tryz.ntmps81
    go_wp2_with fail
    go_ret
    exact ⟨rfl, rfl⟩
  | false =>
    cases h2 : (k == 2) with
    | true =>
      go_enter Tryz.func81, Tryz.ntmps81
      go_wp2_with fail
      go_ret
      exact ⟨rfl, rfl⟩
    | false =>
      go_enter Tryz.func81, Tryz.ntmps81
      go_wp2_with fail
      go_ret
      exact ⟨rfl, rfl⟩

theorem part_f64 {xs : Array Value} {o : Nat} {v : Value} (h : xs[o]? = some v) (w : World) : (part 44 xs o).run Tryz.prog w = .ok v w := by
  simp [part, isAgg, run_underlying Tryz.underlying44, h]
theorem eq_float0' (d : Nat) (w : World) : (Op.equalIn (d + 1) 44 (.float .f64 0) (.float .f64 0)).run Tryz.prog w = .ok true w := by
  simp only [Op.equalIn, Sem.run_bind, run_underlying Tryz.underlying44, Result.andThen_ok]
  simp
  exact by decide
theorem eq_float0 (w : World) : (Op.equalIn 9999 44 (.float .f64 0) (.float .f64 0)).run Tryz.prog w = .ok true w := eq_float0' 9998 w
set_option maxRecDepth 20000 in
theorem opFields : (Tryz.prog.fieldsOf 46).toList.map (fun f => (f.name != "_", f.type, f.offset)) = [(true, 3, 0), (true, 3, 1), (true, 3, 2), (true, 44, 3)] := by kernel_rfl
set_option maxRecDepth 20000 in
theorem eq_op0 (k s q k2 s2 q2 : Int) (w : World) : (Op.equalIn 10000 46 (.agg #[.int .i64 k, .int .i64 s, .int .i64 q, .float .f64 0]) (.agg #[.int .i64 k2, .int .i64 s2, .int .i64 q2, .float .f64 0])).run Tryz.prog w = .ok ((k == k2) && ((s == s2) && (q == q2))) w := by
  rw [run_equalIn_struct w 9999 _ _ _ (by kernel_rfl) (by kernel_rfl), eq_tr 9999 _ _ _ _ w opFields]
  rw [run_eqTr w (part_int rfl) (part_int rfl) (fun w => run_equalIn_int w 9998 _ _ _ _ _ Tryz.underlying3), run_eqTr w (part_int rfl) (part_int rfl) (fun w => run_equalIn_int w 9998 _ _ _ _ _ Tryz.underlying3), run_eqTr w (part_int rfl) (part_int rfl) (fun w => run_equalIn_int w 9998 _ _ _ _ _ Tryz.underlying3), run_eqTr w (part_f64 rfl) (part_f64 rfl) eq_float0]
  cases h1 : (k == k2) <;> cases h2 : (s == s2) <;> cases h3 : (q == q2) <;> simp [eqTr]
theorem run_store_f64 (P : Program) (w : World) (a : Addr) (m : Mode) (k : FloatKind) (n : Nat) : (store a (.float k n) m).run P w = stored P w a (.float k n) m := run_store P w a _ m rfl
attribute [local go_sem] run_store_f64
def sameO (a b : OpR) : Bool := Num.sameB a.p b.p && ((a.k == b.k) && ((a.s == b.s) && (a.q == b.q)))
set_option maxRecDepth 20000 in
set_option maxHeartbeats 1000000 in
theorem sameop_any (a b : OpR) (W : World) : Calls Tryz.prog 70 #[.agg a.cells.toArray, .agg b.cells.toArray] W fun e W' => e = .returned (.bool (sameO a b)) ∧ Below W.heap.size W W' := by
  unfold sameO
  rw [op_arr, op_arr]
  have hq := fun w => eq_op0 a.k a.s a.q b.k b.s b.q w
  cases hs : Num.sameB a.p b.p with
  | true =>
    rw [Bool.true_and]
    go_enter Tryz.func70, Tryz.ntmps70
    go_wp2_with (go_at_call 98; refine (tsame_any _ _ _).mono ?_; rintro e w1 ⟨rfl, rfl⟩; rw [hs])
    go_ret
    exact ⟨rfl, by (repeat' (first | exact Below.refl _ _ | assumption | (with_reducible refine below_alloc' ?_) | (with_reducible refine Below.drew ?_) | (with_reducible refine below_next' (by assumption) ?_) | (with_reducible refine below_setRow ?_ ?_ _) | (with_reducible refine Below.setCell ?_ ?_ _) | (with_reducible refine below_next (by assumption) ?_ ?_) | (with_reducible refine Below.alloc ?_ ?_ _) | exact Nat.le_refl _ | (exact below_size (by assumption)) | (with_reducible refine size_alloc ?_) | (with_reducible refine size_setRow' ?_) | (with_reducible refine size_setCell' ?_) | (with_reducible refine size_next (by assumption) ?_) | omega | (simp; done) | (simp; omega)))⟩
  | false =>
    rw [Bool.false_and]
    clear hq
    go_enter Tryz.func70, Tryz.ntmps70
    go_wp2_with (go_at_call 98; refine (tsame_any _ _ _).mono ?_; rintro e w1 ⟨rfl, rfl⟩; rw [hs])
    go_ret
    exact ⟨rfl, by (repeat' (first | exact Below.refl _ _ | assumption | (with_reducible refine below_alloc' ?_) | (with_reducible refine Below.drew ?_) | (with_reducible refine below_next' (by assumption) ?_) | (with_reducible refine below_setRow ?_ ?_ _) | (with_reducible refine Below.setCell ?_ ?_ _) | (with_reducible refine below_next (by assumption) ?_ ?_) | (with_reducible refine Below.alloc ?_ ?_ _) | exact Nat.le_refl _ | (exact below_size (by assumption)) | (with_reducible refine size_alloc ?_) | (with_reducible refine size_setRow' ?_) | (with_reducible refine size_setCell' ?_) | (with_reducible refine size_next (by assumption) ?_) | omega | (simp; done) | (simp; omega)))⟩
end Go.Proofs.YtgnfachjobohoaaGreat
namespace Go.Proofs.YtgnfachjobohoaaGreat
open Go.RowKit
attribute [local go_sem] run_store_f64

def partsO (o : OpR) : OpR := ⟨o.k, if hasS o.k then o.s else 0, if hasQ o.k then o.q else 0, if hasP o.k then o.p else 0⟩
set_option maxRecDepth 20000 in
set_option maxHeartbeats 4000000 in
theorem parts_op (o : OpR) (W : World) : Calls Tryz.prog 71 #[.agg o.cells.toArray] W fun e W' => e = .returned (.agg (partsO o).cells.toArray) ∧ Below W.heap.size W W' := by
  have hi : (Tryz.prog.info? 46).map (·.size) = some 4 := by kernel_rfl
  unfold partsO
  rw [op_arr, op_arr]
  cases h1 : hasS o.k <;> cases h2 : hasQ o.k <;> cases h3 : hasP o.k
  all_goals
    simp only [if_true, if_false, Bool.false_eq_true]
    go_enter Tryz.func71, Tryz.ntmps71
    go_wp2_with (first | (go_at_call 80; refine (hassku_any _ _).mono ?_; rintro e w1 ⟨rfl, rfl⟩; rw [h1]) | (go_at_call 81; refine (hasqty_any _ _).mono ?_; rintro e w1 ⟨rfl, rfl⟩; rw [h2]) | (go_at_call 83; refine (hasprice_any _ _).mono ?_; rintro e w1 ⟨rfl, rfl⟩; rw [h3]))
    refine bodyPost_row (t := 46) #[.int .i64 _, .int .i64 _, .int .i64 _, .float .f64 _] rfl rfl rfl Tryz.underlying46 rfl hi (by (first | assumption | ((repeat' (first | assumption | ((with_reducible refine Blk.new' ?_); (first | rfl | (simp; done))) | ((with_reducible refine Blk.newRow ?_); (first | rfl | (simp; done))) | ((with_reducible refine Blk.farRow ?_ ?_ _); rotate_left; (first | (simp; done) | (simp; omega) | omega)) | (with_reducible refine Blk.alloc ?_ _) | (with_reducible refine Blk.drew ?_) | ((with_reducible refine Blk.far ?_ ?_ _); rotate_left; (first | (simp; done) | (simp; omega) | omega)) | (with_reducible refine Blk.next' (by assumption) ?_))); done))) ⟨rfl, by (repeat' (first | exact Below.refl _ _ | assumption | (with_reducible refine below_alloc' ?_) | (with_reducible refine Below.drew ?_) | (with_reducible refine below_next' (by assumption) ?_) | (with_reducible refine below_setRow ?_ ?_ _) | (with_reducible refine Below.setCell ?_ ?_ _) | (with_reducible refine below_next (by assumption) ?_ ?_) | (with_reducible refine Below.alloc ?_ ?_ _) | exact Nat.le_refl _ | (exact below_size (by assumption)) | (with_reducible refine size_alloc ?_) | (with_reducible refine size_setRow' ?_) | (with_reducible refine size_setCell' ?_) | (with_reducible refine size_next (by assumption) ?_) | omega | (simp; done) | (simp; omega)))⟩
def bodyB (o : OpR) : Bool :=
  if o.k = 1 then withinB o.s 1 40 && withinB o.q 1 1000 else if o.k = 2 then withinB o.s 1 40 && (withinB o.q (-1000) 1000 && (o.q != 0)) else if o.k = 5 then withinB o.s 1 40 && withinB o.q 1 3 else if o.k = 3 ∨ o.k = 6 then withinB o.s 1 40 else decide (o.k = 4)
/-- May an op be? -/
def mayO (o : OpR) : Bool := sameO o (partsO o) && bodyB o

section
variable (o : OpR) (W : World)
set_option maxRecDepth 20000 in
set_option maxHeartbeats 4000000 in
theorem may_no (h : sameO o (partsO o) = false) : Calls Tryz.prog 36 #[.agg o.cells.toArray] W fun e W' => e = .returned (.bool false) ∧ Below W.heap.size W W' := by
  have bA := Blk.new W 46 o.cells.toArray
  have hB0 := (Below.refl W.heap.size W).alloc (Nat.le_refl _) (.cells o.cells.toArray 46)
  have ro := bA.range
  have HS := Lib.hid (sameop_any o (partsO o))
  rw [h] at HS
  clear bA h
  go_enter Tryz.func36, Tryz.ntmps36
  go_wp2_with fail
  obtain ⟨W1, hw⟩ : ∃ W1, W1 = W.alloc (.cells o.cells.toArray 46) := ⟨_, rfl⟩
  rw [← hw] at hB0 ro ⊢
  clear hw
  refine wp_region_tree (S := (fun W' => Below (W1).heap.size W1 W')) (.take 0 (.take 1 (.one 2 (.one 3 (.take 4 .nil))))) 9999 (by kernel_rfl) (by kernel_rfl) (by kernel_rfl) (by kernel_rfl) (by kernel_rfl) (fun _ _ d _ _ h => by cases d <;> exact h) ?_ (fun hHeld => ?_); (focus (exact (Below.refl _ _).drew)); simp only [Tree.map, List.getElem?_toArray, List.getElem?_cons_zero, List.getElem?_cons_succ]
  (repeat (first | (refine wpTree.take (v := undef) (Or.inr ⟨by rfl, rfl⟩) ?_; simp only [Act.put, List.setIfInBounds_toArray, List.set_cons_zero, List.set_cons_succ]) | (refine wpTree.take (v := .agg (vl ?_).toArray) (yieldsIf_load_mid rfl 24 _ rfl _ _ rfl (vl _) _ ?_ Tryz.underlying24 rfl (vinfoL _)) ?_; rotate_left; (focus (intro _ hS; refine range_next hS ?_; assumption)); simp only [Act.put, List.setIfInBounds_toArray, List.set_cons_zero, List.set_cons_succ]) | (refine wpTree.take (v := .agg (Lab.cells ?_).toArray) (yieldsIf_load_mid rfl 87 _ rfl _ _ rfl (Lab.cells _) _ ?_ Tryz.underlying87 rfl (linfo _)) ?_; rotate_left; (focus (intro _ hS; refine range_next hS ?_; assumption)); simp only [Act.put, List.setIfInBounds_toArray, List.set_cons_zero, List.set_cons_succ]) | (refine wpTree.take (v := .agg (OpR.cells ?_).toArray) (yieldsIf_load_mid rfl 46 _ rfl _ _ rfl (OpR.cells _) _ ?_ Tryz.underlying46 rfl (oinfo _)) ?_; rotate_left; (focus (intro _ hS; refine range_next hS ?_; assumption)); simp only [Act.put, List.setIfInBounds_toArray, List.set_cons_zero, List.set_cons_succ]) | (refine wpTree.take (v := ?_) (Or.inl ⟨by rfl, ?_⟩) ?_; rotate_left; (focus (intro _ hS; (try dsimp only at hS); go_split_ands; (try subst hS); go_simp; (try (with_reducible rfl)); done)); simp only [Act.put, List.setIfInBounds_toArray, List.set_cons_zero, List.set_cons_succ])))
  refine wpTree.one (fun K hK => ?_)
  go_simp
  go_at_call 71
  refine (parts_op o _).mono ?_
  rintro e W2 ⟨rfl, hbW2⟩
  have hBelow := Below.trans hHeld (hbW2.mono (Below.size hHeld))
  refine hK.out _ _ hBelow (fun hHeld' => ?_)
  clear hK K hHeld hbW2 hBelow
  have hHeld := hHeld'
  clear hHeld'
  (repeat (first | (refine wpTree.take (v := undef) (Or.inr ⟨by rfl, rfl⟩) ?_; simp only [Act.put, List.setIfInBounds_toArray, List.set_cons_zero, List.set_cons_succ]) | (refine wpTree.take (v := .agg (vl ?_).toArray) (yieldsIf_load_mid rfl 24 _ rfl _ _ rfl (vl _) _ ?_ Tryz.underlying24 rfl (vinfoL _)) ?_; rotate_left; (focus (intro _ hS; refine range_next hS ?_; assumption)); simp only [Act.put, List.setIfInBounds_toArray, List.set_cons_zero, List.set_cons_succ]) | (refine wpTree.take (v := .agg (Lab.cells ?_).toArray) (yieldsIf_load_mid rfl 87 _ rfl _ _ rfl (Lab.cells _) _ ?_ Tryz.underlying87 rfl (linfo _)) ?_; rotate_left; (focus (intro _ hS; refine range_next hS ?_; assumption)); simp only [Act.put, List.setIfInBounds_toArray, List.set_cons_zero, List.set_cons_succ]) | (refine wpTree.take (v := .agg (OpR.cells ?_).toArray) (yieldsIf_load_mid rfl 46 _ rfl _ _ rfl (OpR.cells _) _ ?_ Tryz.underlying46 rfl (oinfo _)) ?_; rotate_left; (focus (intro _ hS; refine range_next hS ?_; assumption)); simp only [Act.put, List.setIfInBounds_toArray, List.set_cons_zero, List.set_cons_succ]) | (refine wpTree.take (v := ?_) (Or.inl ⟨by rfl, ?_⟩) ?_; rotate_left; (focus (intro _ hS; (try dsimp only at hS); go_split_ands; (try subst hS); go_simp; (try (with_reducible rfl)); done)); simp only [Act.put, List.setIfInBounds_toArray, List.set_cons_zero, List.set_cons_succ])))
  refine wpTree.one (fun K hK => ?_)
  go_simp
  go_at_call 70
  refine (HS.out _).mono ?_
  rintro e W3 ⟨rfl, hbW3⟩
  have hBelow := Below.trans hHeld (hbW3.mono (Below.size hHeld))
  refine hK.out _ _ hBelow (fun hHeld' => ?_)
  clear hK K hHeld hbW3 hBelow
  have hHeld := hHeld'
  clear hHeld'
  (repeat (first | (refine wpTree.take (v := undef) (Or.inr ⟨by rfl, rfl⟩) ?_; simp only [Act.put, List.setIfInBounds_toArray, List.set_cons_zero, List.set_cons_succ]) | (refine wpTree.take (v := .agg (vl ?_).toArray) (yieldsIf_load_mid rfl 24 _ rfl _ _ rfl (vl _) _ ?_ Tryz.underlying24 rfl (vinfoL _)) ?_; rotate_left; (focus (intro _ hS; refine range_next hS ?_; assumption)); simp only [Act.put, List.setIfInBounds_toArray, List.set_cons_zero, List.set_cons_succ]) | (refine wpTree.take (v := .agg (Lab.cells ?_).toArray) (yieldsIf_load_mid rfl 87 _ rfl _ _ rfl (Lab.cells _) _ ?_ Tryz.underlying87 rfl (linfo _)) ?_; rotate_left; (focus (intro _ hS; refine range_next hS ?_; assumption)); simp only [Act.put, List.setIfInBounds_toArray, List.set_cons_zero, List.set_cons_succ]) | (refine wpTree.take (v := .agg (OpR.cells ?_).toArray) (yieldsIf_load_mid rfl 46 _ rfl _ _ rfl (OpR.cells _) _ ?_ Tryz.underlying46 rfl (oinfo _)) ?_; rotate_left; (focus (intro _ hS; refine range_next hS ?_; assumption)); simp only [Act.put, List.setIfInBounds_toArray, List.set_cons_zero, List.set_cons_succ]) | (refine wpTree.take (v := ?_) (Or.inl ⟨by rfl, ?_⟩) ?_; rotate_left; (focus (intro _ hS; (try dsimp only at hS); go_split_ands; (try subst hS); go_simp; (try (with_reducible rfl)); done)); simp only [Act.put, List.setIfInBounds_toArray, List.set_cons_zero, List.set_cons_succ])))
  refine wpTree.done ?_
  have HF := Lib.hid (hB0.trans (hHeld.mono hB0.size))
  clear hHeld hB0 ro HS
  go_wp2_with fail
  go_ret
  exact ⟨rfl, HF.out⟩
set_option maxRecDepth 20000 in
set_option maxHeartbeats 8000000 in
theorem may_yes (h : sameO o (partsO o) = true) : Calls Tryz.prog 36 #[.agg o.cells.toArray] W fun e W' => e = .returned (.bool (bodyB o)) ∧ Below W.heap.size W W' := by
  have bA := Blk.new W 46 o.cells.toArray
  have hB0 := (Below.refl W.heap.size W).alloc (Nat.le_refl _) (.cells o.cells.toArray 46)
  have HS := Lib.hid (sameop_any o (partsO o))
  rw [h] at HS
  clear h
  go_enter Tryz.func36, Tryz.ntmps36
  go_wp2_with fail
  obtain ⟨W1, hw⟩ : ∃ W1, W1 = W.alloc (.cells o.cells.toArray 46) := ⟨_, rfl⟩
  rw [← hw] at hB0 bA ⊢
  have ro := bA.range
  clear hw
  refine wp_region_tree (S := (fun W' => Below (W1).heap.size W1 W')) (.take 0 (.take 1 (.one 2 (.one 3 (.take 4 .nil))))) 9999 (by kernel_rfl) (by kernel_rfl) (by kernel_rfl) (by kernel_rfl) (by kernel_rfl) (fun _ _ d _ _ h => by cases d <;> exact h) ?_ (fun hHeld => ?_); (focus (exact (Below.refl _ _).drew)); simp only [Tree.map, List.getElem?_toArray, List.getElem?_cons_zero, List.getElem?_cons_succ]
  (repeat (first | (refine wpTree.take (v := undef) (Or.inr ⟨by rfl, rfl⟩) ?_; simp only [Act.put, List.setIfInBounds_toArray, List.set_cons_zero, List.set_cons_succ]) | (refine wpTree.take (v := .agg (vl ?_).toArray) (yieldsIf_load_mid rfl 24 _ rfl _ _ rfl (vl _) _ ?_ Tryz.underlying24 rfl (vinfoL _)) ?_; rotate_left; (focus (intro _ hS; refine range_next hS ?_; assumption)); simp only [Act.put, List.setIfInBounds_toArray, List.set_cons_zero, List.set_cons_succ]) | (refine wpTree.take (v := .agg (Lab.cells ?_).toArray) (yieldsIf_load_mid rfl 87 _ rfl _ _ rfl (Lab.cells _) _ ?_ Tryz.underlying87 rfl (linfo _)) ?_; rotate_left; (focus (intro _ hS; refine range_next hS ?_; assumption)); simp only [Act.put, List.setIfInBounds_toArray, List.set_cons_zero, List.set_cons_succ]) | (refine wpTree.take (v := .agg (OpR.cells ?_).toArray) (yieldsIf_load_mid rfl 46 _ rfl _ _ rfl (OpR.cells _) _ ?_ Tryz.underlying46 rfl (oinfo _)) ?_; rotate_left; (focus (intro _ hS; refine range_next hS ?_; assumption)); simp only [Act.put, List.setIfInBounds_toArray, List.set_cons_zero, List.set_cons_succ]) | (refine wpTree.take (v := ?_) (Or.inl ⟨by rfl, ?_⟩) ?_; rotate_left; (focus (intro _ hS; (try dsimp only at hS); go_split_ands; (try subst hS); go_simp; (try (with_reducible rfl)); done)); simp only [Act.put, List.setIfInBounds_toArray, List.set_cons_zero, List.set_cons_succ])))
  refine wpTree.one (fun K hK => ?_)
  go_simp
  go_at_call 71
  refine (parts_op o _).mono ?_
  rintro e W2 ⟨rfl, hbW2⟩
  have hBelow := Below.trans hHeld (hbW2.mono (Below.size hHeld))
  refine hK.out _ _ hBelow (fun hHeld' => ?_)
  clear hK K hHeld hbW2 hBelow
  have hHeld := hHeld'
  clear hHeld'
  (repeat (first | (refine wpTree.take (v := undef) (Or.inr ⟨by rfl, rfl⟩) ?_; simp only [Act.put, List.setIfInBounds_toArray, List.set_cons_zero, List.set_cons_succ]) | (refine wpTree.take (v := .agg (vl ?_).toArray) (yieldsIf_load_mid rfl 24 _ rfl _ _ rfl (vl _) _ ?_ Tryz.underlying24 rfl (vinfoL _)) ?_; rotate_left; (focus (intro _ hS; refine range_next hS ?_; assumption)); simp only [Act.put, List.setIfInBounds_toArray, List.set_cons_zero, List.set_cons_succ]) | (refine wpTree.take (v := .agg (Lab.cells ?_).toArray) (yieldsIf_load_mid rfl 87 _ rfl _ _ rfl (Lab.cells _) _ ?_ Tryz.underlying87 rfl (linfo _)) ?_; rotate_left; (focus (intro _ hS; refine range_next hS ?_; assumption)); simp only [Act.put, List.setIfInBounds_toArray, List.set_cons_zero, List.set_cons_succ]) | (refine wpTree.take (v := .agg (OpR.cells ?_).toArray) (yieldsIf_load_mid rfl 46 _ rfl _ _ rfl (OpR.cells _) _ ?_ Tryz.underlying46 rfl (oinfo _)) ?_; rotate_left; (focus (intro _ hS; refine range_next hS ?_; assumption)); simp only [Act.put, List.setIfInBounds_toArray, List.set_cons_zero, List.set_cons_succ]) | (refine wpTree.take (v := ?_) (Or.inl ⟨by rfl, ?_⟩) ?_; rotate_left; (focus (intro _ hS; (try dsimp only at hS); go_split_ands; (try subst hS); go_simp; (try (with_reducible rfl)); done)); simp only [Act.put, List.setIfInBounds_toArray, List.set_cons_zero, List.set_cons_succ])))
  refine wpTree.one (fun K hK => ?_)
  go_simp
  go_at_call 70
  refine (HS.out _).mono ?_
  rintro e W3 ⟨rfl, hbW3⟩
  have hBelow := Below.trans hHeld (hbW3.mono (Below.size hHeld))
  refine hK.out _ _ hBelow (fun hHeld' => ?_)
  clear hK K hHeld hbW3 hBelow
  have hHeld := hHeld'
  clear hHeld'
  (repeat (first | (refine wpTree.take (v := undef) (Or.inr ⟨by rfl, rfl⟩) ?_; simp only [Act.put, List.setIfInBounds_toArray, List.set_cons_zero, List.set_cons_succ]) | (refine wpTree.take (v := .agg (vl ?_).toArray) (yieldsIf_load_mid rfl 24 _ rfl _ _ rfl (vl _) _ ?_ Tryz.underlying24 rfl (vinfoL _)) ?_; rotate_left; (focus (intro _ hS; refine range_next hS ?_; assumption)); simp only [Act.put, List.setIfInBounds_toArray, List.set_cons_zero, List.set_cons_succ]) | (refine wpTree.take (v := .agg (Lab.cells ?_).toArray) (yieldsIf_load_mid rfl 87 _ rfl _ _ rfl (Lab.cells _) _ ?_ Tryz.underlying87 rfl (linfo _)) ?_; rotate_left; (focus (intro _ hS; refine range_next hS ?_; assumption)); simp only [Act.put, List.setIfInBounds_toArray, List.set_cons_zero, List.set_cons_succ]) | (refine wpTree.take (v := .agg (OpR.cells ?_).toArray) (yieldsIf_load_mid rfl 46 _ rfl _ _ rfl (OpR.cells _) _ ?_ Tryz.underlying46 rfl (oinfo _)) ?_; rotate_left; (focus (intro _ hS; refine range_next hS ?_; assumption)); simp only [Act.put, List.setIfInBounds_toArray, List.set_cons_zero, List.set_cons_succ]) | (refine wpTree.take (v := ?_) (Or.inl ⟨by rfl, ?_⟩) ?_; rotate_left; (focus (intro _ hS; (try dsimp only at hS); go_split_ands; (try subst hS); go_simp; (try (with_reducible rfl)); done)); simp only [Act.put, List.setIfInBounds_toArray, List.set_cons_zero, List.set_cons_succ])))
  refine wpTree.done ?_
  have HF := Lib.hid (hB0.trans (hHeld.mono hB0.size))
  have b3 := bA.next hHeld
  have c0 := (b3.cell 0).trans ((List.getElem?_toArray ..).trans op_0)
  have c1 := (b3.cell 1).trans ((List.getElem?_toArray ..).trans op_1)
  have c2 := (b3.cell 2).trans ((List.getElem?_toArray ..).trans op_2)
  clear hHeld hB0 ro HS bA b3
  by_cases hk : o.k = 1
  · have e1 : (o.k == 1) = true := by simp [hk]
    have e2 : (o.k == 2) = false := by simp [hk]
    have e5 : (o.k == 5) = false := by simp [hk]
    have e3 : (o.k == 3) = false := by simp [hk]
    have e6 : (o.k == 6) = false := by simp [hk]
    have e4 : (o.k == 4) = false := by simp [hk]
    cases hs : withinB o.s 1 40 with
    | false =>
      have HB := Lib.hid (show bodyB o = false by unfold bodyB; rw [hk, hs]; rfl)
      clear hk
      go_wp2_with (first | (go_at_call 72; refine (within_any _ _ _ _).mono ?_; rintro e w1 ⟨rfl, rfl⟩; (try rw [hs]); (try rw [hq])))
      go_ret
      exact ⟨by first | (rw [HB.out]; done) | (rw [HB.out]; rfl), HF.out⟩
    | true =>
      have HB := Lib.hid (show bodyB o = withinB o.q 1 1000 by unfold bodyB; rw [hk, hs]; rfl)
      clear hk
      go_wp2_with (first | (go_at_call 72; refine (within_any _ _ _ _).mono ?_; rintro e w1 ⟨rfl, rfl⟩; (try rw [hs]); (try rw [hq])))
      go_ret
      exact ⟨by first | (rw [HB.out]; done) | (rw [HB.out]; rfl), HF.out⟩
  have n1 := hk
  clear hk
  by_cases hk : o.k = 2
  · have e1 : (o.k == 1) = false := by simp [hk]
    have e2 : (o.k == 2) = true := by simp [hk]
    have e5 : (o.k == 5) = false := by simp [hk]
    have e3 : (o.k == 3) = false := by simp [hk]
    have e6 : (o.k == 6) = false := by simp [hk]
    have e4 : (o.k == 4) = false := by simp [hk]
    cases hs : withinB o.s 1 40 with
    | false =>
      have HB := Lib.hid (show bodyB o = false by unfold bodyB; rw [hk, hs]; rfl)
      clear hk
      go_wp2_with (first | (go_at_call 72; refine (within_any _ _ _ _).mono ?_; rintro e w1 ⟨rfl, rfl⟩; (try rw [hs]); (try rw [hq])))
      go_ret
      exact ⟨by first | (rw [HB.out]; done) | (rw [HB.out]; rfl), HF.out⟩
    | true =>
      cases hq : withinB o.q (-1000) 1000 with
      | false =>
        have HB := Lib.hid (show bodyB o = false by unfold bodyB; rw [hk, hs, hq]; rfl)
        clear hk
        go_wp2_with (first | (go_at_call 72; refine (within_any _ _ _ _).mono ?_; rintro e w1 ⟨rfl, rfl⟩; (try rw [hs]); (try rw [hq])))
        go_ret
        exact ⟨by first | (rw [HB.out]; done) | (rw [HB.out]; rfl), HF.out⟩
      | true =>
        have HB := Lib.hid (show bodyB o = (o.q != 0) by unfold bodyB; rw [hk, hs, hq]; rfl)
        clear hk
        go_wp2_with (first | (go_at_call 72; refine (within_any _ _ _ _).mono ?_; rintro e w1 ⟨rfl, rfl⟩; (try rw [hs]); (try rw [hq])))
        go_ret
        exact ⟨by first | (rw [HB.out]; done) | (rw [HB.out]; rfl), HF.out⟩
  have n2 := hk
  clear hk
  by_cases hk : o.k = 5
  · have e1 : (o.k == 1) = false := by simp [hk]
    have e2 : (o.k == 2) = false := by simp [hk]
    have e5 : (o.k == 5) = true := by simp [hk]
    have e3 : (o.k == 3) = false := by simp [hk]
    have e6 : (o.k == 6) = false := by simp [hk]
    have e4 : (o.k == 4) = false := by simp [hk]
    cases hs : withinB o.s 1 40 with
    | false =>
      have HB := Lib.hid (show bodyB o = false by unfold bodyB; rw [hk, hs]; rfl)
      clear hk
      go_wp2_with (first | (go_at_call 72; refine (within_any _ _ _ _).mono ?_; rintro e w1 ⟨rfl, rfl⟩; (try rw [hs]); (try rw [hq])))
      go_ret
      exact ⟨by first | (rw [HB.out]; done) | (rw [HB.out]; rfl), HF.out⟩
    | true =>
      have HB := Lib.hid (show bodyB o = withinB o.q 1 3 by unfold bodyB; rw [hk, hs]; rfl)
      clear hk
      go_wp2_with (first | (go_at_call 72; refine (within_any _ _ _ _).mono ?_; rintro e w1 ⟨rfl, rfl⟩; (try rw [hs]); (try rw [hq])))
      go_ret
      exact ⟨by first | (rw [HB.out]; done) | (rw [HB.out]; rfl), HF.out⟩
  have n5 := hk
  clear hk
  by_cases hk : o.k = 3
  · have e1 : (o.k == 1) = false := by simp [hk]
    have e2 : (o.k == 2) = false := by simp [hk]
    have e5 : (o.k == 5) = false := by simp [hk]
    have e3 : (o.k == 3) = true := by simp [hk]
    have e6 : (o.k == 6) = false := by simp [hk]
    have e4 : (o.k == 4) = false := by simp [hk]
    have HB := Lib.hid (show bodyB o = withinB o.s 1 40 by unfold bodyB; rw [hk]; rfl)
    clear hk
    go_wp2_with (first | (go_at_call 72; refine (within_any _ _ _ _).mono ?_; rintro e w1 ⟨rfl, rfl⟩; (try rw [hs]); (try rw [hq])))
    go_ret
    exact ⟨by first | (rw [HB.out]; done) | (rw [HB.out]; rfl), HF.out⟩
  have n3 := hk
  clear hk
  by_cases hk : o.k = 6
  · have e1 : (o.k == 1) = false := by simp [hk]
    have e2 : (o.k == 2) = false := by simp [hk]
    have e5 : (o.k == 5) = false := by simp [hk]
    have e3 : (o.k == 3) = false := by simp [hk]
    have e6 : (o.k == 6) = true := by simp [hk]
    have e4 : (o.k == 4) = false := by simp [hk]
    have HB := Lib.hid (show bodyB o = withinB o.s 1 40 by unfold bodyB; rw [hk]; rfl)
    clear hk
    go_wp2_with (first | (go_at_call 72; refine (within_any _ _ _ _).mono ?_; rintro e w1 ⟨rfl, rfl⟩; (try rw [hs]); (try rw [hq])))
    go_ret
    exact ⟨by first | (rw [HB.out]; done) | (rw [HB.out]; rfl), HF.out⟩
  have n6 := hk
  clear hk
  by_cases hk : o.k = 4
  · have e1 : (o.k == 1) = false := by simp [hk]
    have e2 : (o.k == 2) = false := by simp [hk]
    have e5 : (o.k == 5) = false := by simp [hk]
    have e3 : (o.k == 3) = false := by simp [hk]
    have e6 : (o.k == 6) = false := by simp [hk]
    have e4 : (o.k == 4) = true := by simp [hk]
    have HB := Lib.hid (show bodyB o = true by unfold bodyB; rw [hk]; rfl)
    clear hk
    go_wp2_with (first | (go_at_call 72; refine (within_any _ _ _ _).mono ?_; rintro e w1 ⟨rfl, rfl⟩; (try rw [hs]); (try rw [hq])))
    go_ret
    exact ⟨by first | (rw [HB.out]; done) | (rw [HB.out]; rfl), HF.out⟩
  have n4 := hk
  clear hk
  have e1 : (o.k == 1) = false := by simpa using n1
  have e2 : (o.k == 2) = false := by simpa using n2
  have e5 : (o.k == 5) = false := by simpa using n5
  have e3 : (o.k == 3) = false := by simpa using n3
  have e6 : (o.k == 6) = false := by simpa using n6
  have e4 : (o.k == 4) = false := by simpa using n4
  have HB := Lib.hid (show bodyB o = false by unfold bodyB; rw [if_neg n1, if_neg n2, if_neg n5, if_neg (by rintro (h | h); exact n3 h; exact n6 h)]; simpa using n4)
  clear n1 n2 n5 n3 n6 n4
  go_wp2_with (first | (go_at_call 72; refine (within_any _ _ _ _).mono ?_; rintro e w1 ⟨rfl, rfl⟩; (try rw [hs]); (try rw [hq])))
  go_ret
  exact ⟨by first | (rw [HB.out]; done) | (rw [HB.out]; rfl), HF.out⟩
theorem may_any : Calls Tryz.prog 36 #[.agg o.cells.toArray] W fun e W' => e = .returned (.bool (mayO o)) ∧ Below W.heap.size W W' := by
  unfold mayO
  cases h : sameO o (partsO o) with
  | false => rw [Bool.false_and]; exact may_no o W h
  | true => rw [Bool.true_and]; exact may_yes o W h
end
end Go.Proofs.YtgnfachjobohoaaGreat
namespace Go.Proofs.YtgnfachjobohoaaGreat
open Go.RowKit

/-- A box's cells of an op. -/
theorem op_all {W : World} {b : Nat} {t : TypeId} {o : OpR} (h : Blk W b t o.cells.toArray) : W.rangeAt b 0 o.cells ∧ W.cell? ⟨b, 0, none⟩ = some (.int .i64 o.k) ∧ W.cell? ⟨b, 1, none⟩ = some (.int .i64 o.s) ∧ W.cell? ⟨b, 2, none⟩ = some (.int .i64 o.q) ∧ W.cell? ⟨b, 3, none⟩ = some (.float .f64 o.p) := by
  have hc : ∀ i, W.cell? ⟨b, i, none⟩ = o.cells[i]? := fun i => by rw [h.cell, List.getElem?_toArray]
  exact ⟨h.range, (hc 0).trans op_0, (hc 1).trans op_1, (hc 2).trans op_2, (hc 3).trans op_3⟩
def custO (o : OpR) : Bool := mayO o && withinB o.k 1 4
/-- An event. -/
structure Ev where
  (l : Lab)
  (o : OpR)
def Ev.cells (x : Ev) : List Value := x.l.cells ++ x.o.cells
theorem ev_len {x : Ev} : x.cells.length = 21 := by unfold Ev.cells; rw [List.length_append, lab_len, op_len]
theorem ev_lab (x : Ev) {j : Nat} (h : j < 17) : x.cells[j]? = x.l.cells[j]? := by unfold Ev.cells; rw [List.getElem?_append_left (by rw [lab_len]; exact h)]
theorem ev_op (x : Ev) (j : Nat) : x.cells[17 + j]? = x.o.cells[j]? := by
  unfold Ev.cells; rw [List.getElem?_append_right (by rw [lab_len]; omega), lab_len]; simp
theorem ev_one (x : Ev) : x.cells.toArray.all (·.oneCell') = true := by
  refine all_oneCell_toArray fun v hv => ?_
  unfold Ev.cells at hv
  rcases List.mem_append.1 hv with h | h
  · have := lab_one x.l
    exact Array.all_eq_true'.1 this v (by simpa using h)
  · have := op_one x.o
    exact Array.all_eq_true'.1 this v (by simpa using h)
theorem ev_def (x : Ev) : x.cells = x.l.cells ++ x.o.cells := by unfold Ev.cells; rfl
attribute [irreducible] Ev.cells
theorem einfo (x : Ev) : (Tryz.prog.info? 89).map (·.size) = some x.cells.length := by rw [ev_len]; kernel_rfl
theorem einfoA (x : Ev) : (Tryz.prog.info? 89).map (·.size) = some x.cells.toArray.size := by rw [List.size_toArray, ev_len]; kernel_rfl
theorem ev_all {W : World} {b : Nat} {t : TypeId} {x : Ev} (h : Blk W b t x.cells.toArray) : W.rangeAt b 0 x.cells ∧ W.rangeAt b 0 x.l.cells ∧ W.rangeAt b 17 x.o.cells ∧ W.cell? ⟨b, 4, none⟩ = some (.int .i64 x.l.se) := by
  have hc : ∀ i, W.cell? ⟨b, i, none⟩ = x.cells[i]? := fun i => by rw [h.cell, List.getElem?_toArray]
  refine ⟨h.range, fun j v hv => ?_, fun j v hv => ?_, ?_⟩
  · have hj : j < 17 := by have := (List.getElem?_eq_some_iff.1 hv).1; rwa [lab_len] at this
    rw [Nat.zero_add, hc, ev_lab x hj, hv]
  · rw [hc, ev_op, hv]
  · rw [hc, ev_lab x (by omega)]; exact lab_4
/-- May an event be? -/
def rightE (x : Ev) : Bool := rightL x.l && ((x.l.se != 0) && mayO x.o)
def sameE (x y : Ev) : Bool := eqL x.l y.l && sameO x.o y.o

section
variable (x : Ev) (W : World)
set_option maxRecDepth 20000 in
set_option maxHeartbeats 4000000 in
theorem esame_any (y : Ev) : Calls Tryz.prog 42 #[.agg x.cells.toArray, .agg y.cells.toArray] W fun e W' => e = .returned (.bool (sameE x y)) ∧ Below W.heap.size W W' := by
  have hsz : (W.alloc (.cells x.cells.toArray 89)).heap.size = W.heap.size + 1 := by simp
  have bA := (Blk.new W 89 x.cells.toArray).alloc (.cells y.cells.toArray 89)
  have bB := Blk.new (W.alloc (.cells x.cells.toArray 89)) 89 y.cells.toArray
  rw [hsz] at bB
  have hB0 := Lib.hid (((Below.refl W.heap.size W).alloc (Nat.le_refl _) (.cells x.cells.toArray 89)).alloc (by rw [hsz]; omega) (.cells y.cells.toArray 89))
  obtain ⟨_, rla, roa, _⟩ := ev_all bA
  obtain ⟨_, rlb, rob, _⟩ := ev_all bB
  have q := fun w => eq_lab x.l y.l w
  clear bA bB
  unfold sameE
  cases hr : eqL x.l y.l with
  | false =>
    rw [hr] at q
    rw [Bool.false_and]
    clear hr
    go_enter Tryz.func42, Tryz.ntmps42
    go_wp2_with (first | (refine wpList_load_midg (by rfl) 87 _ rfl _ _ rfl (Lab.cells ?_) _ ?_ Tryz.underlying87 rfl (linfo _) ?_; rotate_left; (focus assumption)) | (refine wpList_load_midg (by rfl) 46 _ rfl _ _ rfl (OpR.cells ?_) _ ?_ Tryz.underlying46 rfl (oinfo _) ?_; rotate_left; (focus assumption)))
    go_ret
    exact ⟨rfl, hB0.out⟩
  | true =>
    rw [hr] at q
    rw [Bool.true_and]
    clear hr
    go_enter Tryz.func42, Tryz.ntmps42
    go_wp2_with (first | (refine wpList_load_midg (by rfl) 87 _ rfl _ _ rfl (Lab.cells ?_) _ ?_ Tryz.underlying87 rfl (linfo _) ?_; rotate_left; (focus assumption)) | (refine wpList_load_midg (by rfl) 46 _ rfl _ _ rfl (OpR.cells ?_) _ ?_ Tryz.underlying46 rfl (oinfo _) ?_; rotate_left; (focus assumption)))
    refine (sameop_any x.o y.o _).mono ?_
    rintro e W1 ⟨rfl, hb⟩
    have HF := Lib.hid (hB0.out.trans (hb.mono hB0.out.size))
    clear hb
    go_wp2_with fail
    go_ret
    exact ⟨rfl, HF.out⟩
end

theorem kind_cases (k : Int) : (hasS k = false ∧ hasQ k = false ∧ hasP k = false) ∨ (hasS k = true ∧ hasQ k = true ∧ hasP k = false) ∨ (hasS k = true ∧ hasQ k = false ∧ hasP k = true) ∨ (hasS k = true ∧ hasQ k = false ∧ hasP k = false) := by
  unfold hasS hasQ hasP
  by_cases h4 : k = 4
  · subst h4; left; decide
  by_cases h1 : k = 1
  · subst h1; right; left; decide
  by_cases h2 : k = 2
  · subst h2; right; left; decide
  by_cases h5 : k = 5
  · subst h5; right; left; decide
  by_cases h6 : k = 6
  · subst h6; right; right; left; decide
  right; right; right
  simp [h4, h1, h2, h5, h6]
/-- A number as a word. -/
def wordN (n : Int) : Nat := (n % 18446744073709551616).toNat
theorem wordN_lt (n : Int) : wordN n < 18446744073709551616 := by unfold wordN; omega
theorem wordN_nat (n : Nat) (h : n < 18446744073709551616) : wordN (n : Int) = n := by unfold wordN; omega
theorem wrap_word (n : Int) : IntKind.u64.wrap n = (wordN n : Nat) := by rw [IntKind.wrap_u64]; unfold wordN; omega
/-- An op's bytes. -/
def encO (o : OpR) : List Nat := enc (wordN o.k) ++ ((if hasS o.k then enc (wordN o.s) else []) ++ ((if hasQ o.k then enc (zig o.q) else []) ++ (if hasP o.k then encF o.p else [])))
structure OpR.Ok (o : OpR) : Prop where
  k1 : -9223372036854775808 ≤ o.k
  k2 : o.k ≤ 9223372036854775807
  s1 : -9223372036854775808 ≤ o.s
  s2 : o.s ≤ 9223372036854775807
  q1 : -9223372036854775808 ≤ o.q
  q2 : o.q ≤ 9223372036854775807
  p : o.p < 18446744073709551616

/-- A box that no write touches. -/
def BoxT (t : TypeId) (W : World) (bx g : Nat) (cs : Array Value) : Prop := Blk W bx t cs ∧ bx ≠ g ∧ some bx ≠ rowOf W g
theorem BoxT.wrote {t : TypeId} {W W' : World} {B bx g : Nat} {cs : Array Value} (h : BoxT t W bx g cs) (k : Wrote B g W W') : BoxT t W' bx g cs :=
  ⟨(k.2.1 bx h.1.lt h.2.1 h.2.2).trans h.1, h.2.1, fun e => (k.2.2 bx e.symm).elim (fun e' => h.2.2 e'.symm) (fun e' => by have := h.1.lt; omega)⟩
theorem BoxT.new {t : TypeId} {W : World} {B g : Nat} {bs : List Nat} (h : Wtr W B g bs) (cs : Array Value) : BoxT t (W.alloc (.cells cs t)) W.heap.size g cs := by
  have hb0 := (Below.refl W.heap.size W).alloc (Nat.le_refl _) (.cells cs t)
  exact ⟨Blk.new _ _ _, by have := h.lt; omega, fun e => by have := h.lt; have := rowOf_lt h (k := W.heap.size) (by rw [e]; unfold rowOf; rw [hb0.cell (p := ⟨g, 0, none⟩) h.lt]); omega⟩

set_option maxRecDepth 20000 in
set_option maxHeartbeats 8000000 in
theorem putop_any (B g : Nat) (o : OpR) (bs : List Nat) (W : World) (h : Wtr W B g bs) (hok : o.Ok) (hlen : bs.length + 50 ≤ 140737488355328) :
    Calls Tryz.prog 53 #[.pointer (some ⟨g, 0, none⟩), .agg o.cells.toArray] W fun e W' => e = .returned (.tuple #[]) ∧ Wtr W' B g (bs ++ encO o) ∧ Wrote B g W W' := by
  have hb0 := (Below.refl W.heap.size W).alloc (Nat.le_refl _) (.cells o.cells.toArray 46)
  have HX0 := Lib.hid (BoxT.new (t := 46) h o.cells.toArray)
  have HW0 := Lib.hid (h.next hb0)
  have HR0 := Lib.hid (Wrote.ofBelow hb0 (Nat.le_trans h.1 (Nat.le_of_lt h.lt)) h.lt)
  have HLE := Lib.hid (show (enc (wordN o.k)).length ≤ 10 ∧ (enc (wordN o.s)).length ≤ 10 ∧ (enc (zig o.q)).length ≤ 10 ∧ (encF o.p).length ≤ 10 from ⟨enc_len _ (wordN_lt _), enc_len _ (wordN_lt _), enc_len _ (zig_lt hok.q1 hok.q2), by unfold encF; rw [be8_len]; omega⟩)
  have HLEN := Lib.hid hlen
  have HOK := Lib.hid hok
  have w1 := wrap_word o.k
  have w2 := wrap_word o.s
  clear hb0 h hlen hok
  rcases kind_cases o.k with ⟨h1, h2, h3⟩ | ⟨h1, h2, h3⟩ | ⟨h1, h2, h3⟩ | ⟨h1, h2, h3⟩
  · go_enter Tryz.func53, Tryz.ntmps53
    obtain ⟨_, c0, c1, c2, c3⟩ := op_all HX0.out.1
    go_wp2_with (first | (go_at_call 80; refine (hassku_any _ _).mono ?_; rintro e wh ⟨rfl, rfl⟩; rw [h1]) | (go_at_call 81; refine (hasqty_any _ _).mono ?_; rintro e wh ⟨rfl, rfl⟩; rw [h2]) | (go_at_call 83; refine (hasprice_any _ _).mono ?_; rintro e wh ⟨rfl, rfl⟩; rw [h3]))
    clear c0 c1 c2 c3
    refine (wnum_any B g (wordN o.k) bs _ HW0.out (wordN_lt _) (by (try simp only [List.length_append]); have := HLEN.out; obtain ⟨_, _, _, _⟩ := HLE.out; omega)).mono ?_
    rintro e W1 ⟨rfl, hw, hr⟩
    have HW1 := Lib.hid hw
    have HR1 := Lib.hid (HR0.out.trans hr)
    have HX1 := Lib.hid (HX0.out.wrote hr)
    obtain ⟨_, c0, c1, c2, c3⟩ := op_all HX1.out.1
    clear hw hr HX0 HR0 HW0
    go_wp2_with (first | (go_at_call 80; refine (hassku_any _ _).mono ?_; rintro e wh ⟨rfl, rfl⟩; rw [h1]) | (go_at_call 81; refine (hasqty_any _ _).mono ?_; rintro e wh ⟨rfl, rfl⟩; rw [h2]) | (go_at_call 83; refine (hasprice_any _ _).mono ?_; rintro e wh ⟨rfl, rfl⟩; rw [h3]))
    have HE := Lib.hid (show encO o = enc (wordN o.k) by unfold encO; rw [h1, h2, h3]; simp)
    exact ⟨rfl, .tuple #[], by simp [results, Tryz.results53, go_sem], rfl, by rw [HE.out]; simpa only [List.append_assoc] using HW1.out, HR1.out⟩
  · go_enter Tryz.func53, Tryz.ntmps53
    obtain ⟨_, c0, c1, c2, c3⟩ := op_all HX0.out.1
    go_wp2_with (first | (go_at_call 80; refine (hassku_any _ _).mono ?_; rintro e wh ⟨rfl, rfl⟩; rw [h1]) | (go_at_call 81; refine (hasqty_any _ _).mono ?_; rintro e wh ⟨rfl, rfl⟩; rw [h2]) | (go_at_call 83; refine (hasprice_any _ _).mono ?_; rintro e wh ⟨rfl, rfl⟩; rw [h3]))
    clear c0 c1 c2 c3
    refine (wnum_any B g (wordN o.k) bs _ HW0.out (wordN_lt _) (by (try simp only [List.length_append]); have := HLEN.out; obtain ⟨_, _, _, _⟩ := HLE.out; omega)).mono ?_
    rintro e W1 ⟨rfl, hw, hr⟩
    have HW1 := Lib.hid hw
    have HR1 := Lib.hid (HR0.out.trans hr)
    have HX1 := Lib.hid (HX0.out.wrote hr)
    obtain ⟨_, c0, c1, c2, c3⟩ := op_all HX1.out.1
    clear hw hr HX0 HR0 HW0
    go_wp2_with (first | (go_at_call 80; refine (hassku_any _ _).mono ?_; rintro e wh ⟨rfl, rfl⟩; rw [h1]) | (go_at_call 81; refine (hasqty_any _ _).mono ?_; rintro e wh ⟨rfl, rfl⟩; rw [h2]) | (go_at_call 83; refine (hasprice_any _ _).mono ?_; rintro e wh ⟨rfl, rfl⟩; rw [h3]))
    clear c0 c1 c2 c3
    refine (wnum_any B g (wordN o.s) (bs ++ enc (wordN o.k)) _ HW1.out (wordN_lt _) (by (try simp only [List.length_append]); have := HLEN.out; obtain ⟨_, _, _, _⟩ := HLE.out; omega)).mono ?_
    rintro e W2 ⟨rfl, hw, hr⟩
    have HW2 := Lib.hid hw
    have HR2 := Lib.hid (HR1.out.trans hr)
    have HX2 := Lib.hid (HX1.out.wrote hr)
    obtain ⟨_, c0, c1, c2, c3⟩ := op_all HX2.out.1
    clear hw hr HX1 HR1 HW1
    go_wp2_with (first | (go_at_call 80; refine (hassku_any _ _).mono ?_; rintro e wh ⟨rfl, rfl⟩; rw [h1]) | (go_at_call 81; refine (hasqty_any _ _).mono ?_; rintro e wh ⟨rfl, rfl⟩; rw [h2]) | (go_at_call 83; refine (hasprice_any _ _).mono ?_; rintro e wh ⟨rfl, rfl⟩; rw [h3]))
    clear c0 c1 c2 c3
    refine (wint_any B g o.q ((bs ++ enc (wordN o.k)) ++ enc (wordN o.s)) _ HW2.out HOK.out.q1 HOK.out.q2 (by (try simp only [List.length_append]); have := HLEN.out; obtain ⟨_, _, _, _⟩ := HLE.out; omega)).mono ?_
    rintro e W3 ⟨rfl, hw, hr⟩
    have HW3 := Lib.hid hw
    have HR3 := Lib.hid (HR2.out.trans hr)
    have HX3 := Lib.hid (HX2.out.wrote hr)
    obtain ⟨_, c0, c1, c2, c3⟩ := op_all HX3.out.1
    clear hw hr HX2 HR2 HW2
    go_wp2_with (first | (go_at_call 80; refine (hassku_any _ _).mono ?_; rintro e wh ⟨rfl, rfl⟩; rw [h1]) | (go_at_call 81; refine (hasqty_any _ _).mono ?_; rintro e wh ⟨rfl, rfl⟩; rw [h2]) | (go_at_call 83; refine (hasprice_any _ _).mono ?_; rintro e wh ⟨rfl, rfl⟩; rw [h3]))
    have HE := Lib.hid (show encO o = enc (wordN o.k) ++ enc (wordN o.s) ++ enc (zig o.q) by unfold encO; rw [h1, h2, h3]; simp)
    exact ⟨rfl, .tuple #[], by simp [results, Tryz.results53, go_sem], rfl, by rw [HE.out]; simpa only [List.append_assoc] using HW3.out, HR3.out⟩
  · go_enter Tryz.func53, Tryz.ntmps53
    obtain ⟨_, c0, c1, c2, c3⟩ := op_all HX0.out.1
    go_wp2_with (first | (go_at_call 80; refine (hassku_any _ _).mono ?_; rintro e wh ⟨rfl, rfl⟩; rw [h1]) | (go_at_call 81; refine (hasqty_any _ _).mono ?_; rintro e wh ⟨rfl, rfl⟩; rw [h2]) | (go_at_call 83; refine (hasprice_any _ _).mono ?_; rintro e wh ⟨rfl, rfl⟩; rw [h3]))
    clear c0 c1 c2 c3
    refine (wnum_any B g (wordN o.k) bs _ HW0.out (wordN_lt _) (by (try simp only [List.length_append]); have := HLEN.out; obtain ⟨_, _, _, _⟩ := HLE.out; omega)).mono ?_
    rintro e W1 ⟨rfl, hw, hr⟩
    have HW1 := Lib.hid hw
    have HR1 := Lib.hid (HR0.out.trans hr)
    have HX1 := Lib.hid (HX0.out.wrote hr)
    obtain ⟨_, c0, c1, c2, c3⟩ := op_all HX1.out.1
    clear hw hr HX0 HR0 HW0
    go_wp2_with (first | (go_at_call 80; refine (hassku_any _ _).mono ?_; rintro e wh ⟨rfl, rfl⟩; rw [h1]) | (go_at_call 81; refine (hasqty_any _ _).mono ?_; rintro e wh ⟨rfl, rfl⟩; rw [h2]) | (go_at_call 83; refine (hasprice_any _ _).mono ?_; rintro e wh ⟨rfl, rfl⟩; rw [h3]))
    clear c0 c1 c2 c3
    refine (wnum_any B g (wordN o.s) (bs ++ enc (wordN o.k)) _ HW1.out (wordN_lt _) (by (try simp only [List.length_append]); have := HLEN.out; obtain ⟨_, _, _, _⟩ := HLE.out; omega)).mono ?_
    rintro e W2 ⟨rfl, hw, hr⟩
    have HW2 := Lib.hid hw
    have HR2 := Lib.hid (HR1.out.trans hr)
    have HX2 := Lib.hid (HX1.out.wrote hr)
    obtain ⟨_, c0, c1, c2, c3⟩ := op_all HX2.out.1
    clear hw hr HX1 HR1 HW1
    go_wp2_with (first | (go_at_call 80; refine (hassku_any _ _).mono ?_; rintro e wh ⟨rfl, rfl⟩; rw [h1]) | (go_at_call 81; refine (hasqty_any _ _).mono ?_; rintro e wh ⟨rfl, rfl⟩; rw [h2]) | (go_at_call 83; refine (hasprice_any _ _).mono ?_; rintro e wh ⟨rfl, rfl⟩; rw [h3]))
    clear c0 c1 c2 c3
    refine (wfloat_any B g o.p ((bs ++ enc (wordN o.k)) ++ enc (wordN o.s)) _ HW2.out HOK.out.p (by (try simp only [List.length_append]); have := HLEN.out; obtain ⟨_, _, _, _⟩ := HLE.out; omega)).mono ?_
    rintro e W3 ⟨rfl, hw, hr⟩
    have HW3 := Lib.hid hw
    have HR3 := Lib.hid (HR2.out.trans hr)
    have HX3 := Lib.hid (HX2.out.wrote hr)
    obtain ⟨_, c0, c1, c2, c3⟩ := op_all HX3.out.1
    clear hw hr HX2 HR2 HW2
    go_wp2_with (first | (go_at_call 80; refine (hassku_any _ _).mono ?_; rintro e wh ⟨rfl, rfl⟩; rw [h1]) | (go_at_call 81; refine (hasqty_any _ _).mono ?_; rintro e wh ⟨rfl, rfl⟩; rw [h2]) | (go_at_call 83; refine (hasprice_any _ _).mono ?_; rintro e wh ⟨rfl, rfl⟩; rw [h3]))
    have HE := Lib.hid (show encO o = enc (wordN o.k) ++ enc (wordN o.s) ++ encF o.p by unfold encO; rw [h1, h2, h3]; simp)
    exact ⟨rfl, .tuple #[], by simp [results, Tryz.results53, go_sem], rfl, by rw [HE.out]; simpa only [List.append_assoc] using HW3.out, HR3.out⟩
  · go_enter Tryz.func53, Tryz.ntmps53
    obtain ⟨_, c0, c1, c2, c3⟩ := op_all HX0.out.1
    go_wp2_with (first | (go_at_call 80; refine (hassku_any _ _).mono ?_; rintro e wh ⟨rfl, rfl⟩; rw [h1]) | (go_at_call 81; refine (hasqty_any _ _).mono ?_; rintro e wh ⟨rfl, rfl⟩; rw [h2]) | (go_at_call 83; refine (hasprice_any _ _).mono ?_; rintro e wh ⟨rfl, rfl⟩; rw [h3]))
    clear c0 c1 c2 c3
    refine (wnum_any B g (wordN o.k) bs _ HW0.out (wordN_lt _) (by (try simp only [List.length_append]); have := HLEN.out; obtain ⟨_, _, _, _⟩ := HLE.out; omega)).mono ?_
    rintro e W1 ⟨rfl, hw, hr⟩
    have HW1 := Lib.hid hw
    have HR1 := Lib.hid (HR0.out.trans hr)
    have HX1 := Lib.hid (HX0.out.wrote hr)
    obtain ⟨_, c0, c1, c2, c3⟩ := op_all HX1.out.1
    clear hw hr HX0 HR0 HW0
    go_wp2_with (first | (go_at_call 80; refine (hassku_any _ _).mono ?_; rintro e wh ⟨rfl, rfl⟩; rw [h1]) | (go_at_call 81; refine (hasqty_any _ _).mono ?_; rintro e wh ⟨rfl, rfl⟩; rw [h2]) | (go_at_call 83; refine (hasprice_any _ _).mono ?_; rintro e wh ⟨rfl, rfl⟩; rw [h3]))
    clear c0 c1 c2 c3
    refine (wnum_any B g (wordN o.s) (bs ++ enc (wordN o.k)) _ HW1.out (wordN_lt _) (by (try simp only [List.length_append]); have := HLEN.out; obtain ⟨_, _, _, _⟩ := HLE.out; omega)).mono ?_
    rintro e W2 ⟨rfl, hw, hr⟩
    have HW2 := Lib.hid hw
    have HR2 := Lib.hid (HR1.out.trans hr)
    have HX2 := Lib.hid (HX1.out.wrote hr)
    obtain ⟨_, c0, c1, c2, c3⟩ := op_all HX2.out.1
    clear hw hr HX1 HR1 HW1
    go_wp2_with (first | (go_at_call 80; refine (hassku_any _ _).mono ?_; rintro e wh ⟨rfl, rfl⟩; rw [h1]) | (go_at_call 81; refine (hasqty_any _ _).mono ?_; rintro e wh ⟨rfl, rfl⟩; rw [h2]) | (go_at_call 83; refine (hasprice_any _ _).mono ?_; rintro e wh ⟨rfl, rfl⟩; rw [h3]))
    have HE := Lib.hid (show encO o = enc (wordN o.k) ++ enc (wordN o.s) by unfold encO; rw [h1, h2, h3]; simp)
    exact ⟨rfl, .tuple #[], by simp [results, Tryz.results53, go_sem], rfl, by rw [HE.out]; simpa only [List.append_assoc] using HW2.out, HR2.out⟩
end Go.Proofs.YtgnfachjobohoaaGreat
namespace Go.Proofs.YtgnfachjobohoaaGreat
open Go.RowKit

theorem run_store_f64' (P : Program) (w : World) (a : Addr) (m : Mode) (k : FloatKind) (n : Nat) : (store a (.float k n) m).run P w = stored P w a (.float k n) m := run_store P w a _ m rfl
attribute [local go_sem] run_store_f64'

/-- In the middle of a read into a box. -/
def AtT (T : TypeId) (Z : Array Value) (L s k c g : Nat) (W W' : World) (t : List Nat) (cs : Array Value) : Prop :=
  RdB L W' s t ∧ Rdr W' k s ∧ Blk W' c T cs ∧ Blk W' g T Z ∧ Off s W W'
section
variable {T : TypeId} {Z : Array Value} {L s k c g : Nat} {W W' W'' : World} {t t' : List Nat} {cs : Array Value}
theorem AtT.set (p : Pl L s k c g W.heap.size) (h : AtT T Z L s k c g W W' t cs) (j : Nat) (u : Value) : AtT T Z L s k c g W (W'.setCell ⟨c, j, none⟩ u) t (cs.setIfInBounds j u) :=
  ⟨h.1.far p.cs p.cl, h.2.1.far p.ck, h.2.2.1.setCell j u, h.2.2.2.1.far (Ne.symm p.cg) u, h.2.2.2.2.far p.nc j u⟩
theorem AtT.sets (p : Pl L s k c g W.heap.size) : ∀ (vs : List Value) (j : Nat) (W' : World) (cs : Array Value), AtT T Z L s k c g W W' t cs → AtT T Z L s k c g W (W'.setCells c j vs) t (setL cs j vs)
  | [], _, _, _, h => h
  | v :: r, j, _, _, h => AtT.sets p r (j + 1) _ _ (h.set p j v)
theorem AtT.step (p : Pl L s k c g W.heap.size) (h : AtT T Z L s k c g W W' t cs) (hO : Off s W' W'') (hB : RdB L W'' s t') : AtT T Z L s k c g W W'' t' cs :=
  ⟨hB, h.2.1.off hO, hO.blk h.2.2.1 p.cs, hO.blk h.2.2.2.1 p.gs, h.2.2.2.2.trans hO⟩
theorem AtT.next (p : Pl L s k c g W.heap.size) (h : AtT T Z L s k c g W W' t cs) (hb : Below W'.heap.size W' W'') : AtT T Z L s k c g W W'' t cs := h.step p (Off.ofBelow hb) (h.1.below hb)
end

def pureP {α : Type} (x : α) : List Nat → Except Int (α × List Nat) := fun bs => .ok (x, bs)
def mkO (o : OpR) (t : List Nat) : Except Int (OpR × List Nat) := if mayO o then .ok (o, t) else .error 3
/-- The op that bytes begin with. -/
def opP : List Nat → Except Int (OpR × List Nat) :=
  bindP (smallP 6) fun k => bindP (if hasS (k : Nat) then smallP 40 else pureP 0) fun s => bindP (if hasQ (k : Nat) then intP else pureP 0) fun q => bindP (if hasP (k : Nat) then floatP else pureP 0) fun p => mkO ⟨(k : Nat), (s : Nat), q, p⟩
attribute [irreducible] opP
theorem opP_def : opP = bindP (smallP 6) fun k => bindP (if hasS (k : Nat) then smallP 40 else pureP 0) fun s => bindP (if hasQ (k : Nat) then intP else pureP 0) fun q => bindP (if hasP (k : Nat) then floatP else pureP 0) fun p => mkO ⟨(k : Nat), (s : Nat), q, p⟩ := by
  unfold opP; rfl
theorem bindP_pure {α β : Type} (x : α) (Q : α → List Nat → Except Int (β × List Nat)) (bs : List Nat) : bindP (pureP x) Q bs = Q x bs := rfl
theorem lt_tail {e : List Nat} {bs t : List Nat} (h : bs = e ++ t) (hb : ∀ x ∈ bs, x < 256) : ∀ x ∈ t, x < 256 := fun x hx => hb x (by rw [h]; exact List.mem_append_right _ hx)

theorem op_siz (o : OpR) : (#[.int .i64 0, .int .i64 0, .int .i64 0, .float .f64 0] : Array Value).size = o.cells.toArray.size := show 4 = o.cells.toArray.size by rw [List.size_toArray, op_len]

variable {L : Nat}
set_option maxRecDepth 20000 in
set_option maxHeartbeats 8000000 in
theorem getop_any (k s : Nat) (bs : List Nat) (W : World) (hL : L ≤ W.heap.size) (hr : Rdr W k s) (h : RdB L W s bs) (hby : ∀ x ∈ bs, x < 256) :
    Calls Tryz.prog 63 #[.pointer (some ⟨k, 0, none⟩)] W fun e W' => EndsV L s W (fun o : OpR => .agg o.cells.toArray) (opP bs) e W' := by
  obtain ⟨R, hR⟩ : ∃ R, R = opP bs := ⟨_, rfl⟩
  rw [← hR]
  have HR0 := Lib.hid (hR.trans (by rw [opP_def]))
  clear hR
  have b1 := (Below.refl W.heap.size W).alloc (Nat.le_refl _) (.cells #[.int .i64 0, .int .i64 0, .int .i64 0, .float .f64 0] 46)
  have hg := Blk.new W 46 #[.int .i64 0, .int .i64 0, .int .i64 0, .float .f64 0]
  have B0 := Lib.hid (show RdB L (W.alloc (.cells #[.int .i64 0, .int .i64 0, .int .i64 0, .float .f64 0] 46)) s bs ∧ Rdr (W.alloc (.cells #[.int .i64 0, .int .i64 0, .int .i64 0, .float .f64 0] 46)) k s ∧ Off s W (W.alloc (.cells #[.int .i64 0, .int .i64 0, .int .i64 0, .float .f64 0] 46)) from ⟨h.below b1, hr.below b1, Off.ofBelow b1⟩)
  have HG := Lib.hid hg
  have HS := Lib.hid (show s < W.heap.size ∧ k < W.heap.size from ⟨h.lt, hr.lt⟩)
  have HL := Lib.hid hL
  have HBY := Lib.hid hby
  clear b1 hg h hr hL hby
  go_enter Tryz.func63, Tryz.ntmps63
  go_wp2_with fail
  refine (rsmall_any k s bs 6 _ B0.out.2.1 B0.out.1 (by decide)).mono ?_
  rintro e w1 ⟨hO, he⟩
  rcases hq : smallP 6 bs with x | ⟨v1, b1⟩
  · rw [hq] at he
    have HE := Lib.hid (HR0.out.trans (bindP_err hq))
    have HO := Lib.hid (B0.out.2.2.trans hO)
    obtain ⟨rfl, hM⟩ := he
    have HM := Lib.hid hM
    clear hq hO hM B0
    go_wp2_with fail
    exact ⟨rfl, HO.out, by rw [HE.out]; exact ⟨rfl, HM.out⟩⟩
  rw [hq] at he
  obtain ⟨rfl, hB⟩ := he
  have hv1 := Lib.hid (small_ok hq).2
  have HR1 := Lib.hid (HR0.out.trans (bindP_ok hq))
  have HB1 := Lib.hid (lt_tail (small_one HBY.out hq) HBY.out)
  have hs1 : (W.alloc (.cells #[.int .i64 0, .int .i64 0, .int .i64 0, .float .f64 0] 46)).heap.size = W.heap.size + 1 := by simp
  have hsz := hO.size
  rw [hs1] at hsz
  have A0 := Lib.hid (show RdB L w1 s b1 ∧ Rdr w1 k s ∧ Blk w1 W.heap.size 46 #[.int .i64 0, .int .i64 0, .int .i64 0, .float .f64 0] ∧ Off s W w1 from ⟨hB, B0.out.2.1.off hO, hO.blk HG.out (by have := HS.out; omega), B0.out.2.2.trans hO⟩)
  have p : Pl L s k w1.heap.size W.heap.size W.heap.size := ⟨by have := HS.out; omega, by have := HS.out; omega, by have := HL.out; omega, by omega, by have := HS.out; omega, by omega⟩
  have HP := Lib.hid p
  clear hq hO hB B0 hs1 hsz HG p
  have hb2 : ∀ cs, Below w1.heap.size w1 (w1.alloc (.cells cs 46)) := fun cs => (Below.refl _ w1).alloc (Nat.le_refl _) _
  have A1 := Lib.hid (show AtT 46 #[.int .i64 0, .int .i64 0, .int .i64 0, .float .f64 0] L s k w1.heap.size W.heap.size W (w1.alloc (.cells #[.int .i64 (v1 : Nat), .int .i64 0, .int .i64 0, .float .f64 0] 46)) b1 #[.int .i64 (v1 : Nat), .int .i64 0, .int .i64 0, .float .f64 0] from
    ⟨A0.out.1.below (hb2 _), A0.out.2.1.below (hb2 _), Blk.new _ _ _, A0.out.2.2.1.next (hb2 _), A0.out.2.2.2.trans (Off.ofBelow (hb2 _))⟩)
  clear hb2 A0
  rcases kind_cases (v1 : Nat) with ⟨h1, h2, h3⟩ | ⟨h1, h2, h3⟩ | ⟨h1, h2, h3⟩ | ⟨h1, h2, h3⟩
  · have HR2 := Lib.hid HR1.out
    rw [h1, h2, h3] at HR2
    simp only [if_false, Bool.false_eq_true] at HR2
    have HR3 := Lib.hid (HR2.out.trans (bindP_pure _ _ _))
    have HR4 := Lib.hid (HR3.out.trans (bindP_pure _ _ _))
    have HR5 := Lib.hid (HR4.out.trans (bindP_pure _ _ _))
    obtain ⟨o, ho⟩ : ∃ o, o = OpR.mk (v1 : Nat) ((0 : Nat) : Int) 0 0 := ⟨_, rfl⟩
    have A9 := Lib.hid (show AtT 46 #[.int .i64 0, .int .i64 0, .int .i64 0, .float .f64 0] L s k w1.heap.size W.heap.size W _ b1 o.cells.toArray from by rw [ho, op_arr]; exact A1.out)
    rw [← ho] at HR5
    have k0 := A1.out.2.2.1.cell 0
    have rgl := A9.out.2.2.1.range
    clear ho A1
    go_wp2_with (first | (refine wpList_load_midg (by rfl) 46 _ rfl _ _ rfl (OpR.cells ?_) _ ?_ Tryz.underlying46 rfl (oinfo _) ?_; rotate_left; (focus assumption)) | (go_at_call 80; refine (hassku_any _ _).mono ?_; rintro e wh ⟨rfl, rfl⟩; rw [h1]) | (go_at_call 81; refine (hasqty_any _ _).mono ?_; rintro e wh ⟨rfl, rfl⟩; rw [h2]) | (go_at_call 83; refine (hasprice_any _ _).mono ?_; rintro e wh ⟨rfl, rfl⟩; rw [h3]))
    clear k0 rgl
    (try clear z0)
    (try clear kj)
    refine (may_any o _).mono ?_
    rintro e w6 ⟨rfl, hb⟩
    have A7 := Lib.hid (A9.out.next HP.out hb)
    clear hb A9
    rcases hq : mayO o with _ | _
    · have HE := Lib.hid (HR5.out.trans (show mkO o b1 = .error 3 by unfold mkO; rw [hq]; rfl))
      clear hq
      go_wp2_with fail
      refine (rmust_not k s b1 w6 A7.out.2.1 A7.out.1).mono ?_
      rintro e w7 ⟨rfl, hM, hO⟩
      have HO := Lib.hid (A7.out.2.2.2.2.trans hO)
      have HM := Lib.hid hM
      clear hM hO A7
      go_wp2_with fail
      exact ⟨rfl, HO.out, by rw [HE.out]; exact ⟨rfl, HM.out⟩⟩
    · have HE := Lib.hid (HR5.out.trans (show mkO o b1 = .ok (o, b1) by unfold mkO; rw [hq]; rfl))
      clear hq
      go_wp2_with fail
      refine (rmust_yes k s b1 w6 A7.out.2.1 A7.out.1).mono ?_
      rintro e w7 ⟨rfl, rfl⟩
      have rgl := A7.out.2.2.1.range
      have bg := A7.out.2.2.2.1
      go_wp2_with (first | (refine wpList_load_midg (by rfl) 46 _ rfl _ _ rfl (OpR.cells ?_) _ ?_ Tryz.underlying46 rfl (oinfo _) ?_; rotate_left; (focus assumption)) | (refine wpList_store_blk rfl 46 _ _ rfl W.heap.size 46 _ o.cells.toArray rfl rfl bg (oinfoA _) (op_siz o) (op_one o) ?_; intro hrow))
      refine bodyPost_row (t := 46) o.cells.toArray rfl rfl rfl Tryz.underlying46 rfl (oinfoA _) hrow ?_
      have hf : ∀ j, j ≠ W.heap.size → (w6.setRow W.heap.size o.cells.toArray).heap[j]? = w6.heap[j]? := fun j hj => setRow_other w6 W.heap.size j _ hj
      have hz : (w6.setRow W.heap.size o.cells.toArray).heap.size = w6.heap.size := by simp
      exact ⟨A7.out.2.2.2.2.turn (Nat.le_refl _) rfl rfl rfl (Nat.le_of_eq hz.symm) hf, by rw [HE.out]; exact ⟨rfl, A7.out.1.turn (Nat.le_of_eq hz.symm) hf HP.out.gs HL.out⟩⟩
  · have HR2 := Lib.hid HR1.out
    rw [h1, h2, h3] at HR2
    simp only [if_true, if_false, Bool.false_eq_true] at HR2
    have k0 := A1.out.2.2.1.cell 0
    have z0 := A1.out.2.2.1.frozen 1
    have kj := A1.out.2.2.1.cell 1
    go_wp2_with (first | (go_at_call 80; refine (hassku_any _ _).mono ?_; rintro e wh ⟨rfl, rfl⟩; rw [h1]) | (go_at_call 81; refine (hasqty_any _ _).mono ?_; rintro e wh ⟨rfl, rfl⟩; rw [h2]) | (go_at_call 83; refine (hasprice_any _ _).mono ?_; rintro e wh ⟨rfl, rfl⟩; rw [h3]))
    clear k0 z0 kj
    refine (rsmall_any k s b1 40 _ A1.out.2.1 A1.out.1 (by decide)).mono ?_
    rintro e w2 ⟨hO, he⟩
    rcases hq : smallP 40 b1 with x | ⟨v2, b2⟩
    · rw [hq] at he
      have HE := Lib.hid (HR2.out.trans (bindP_err hq))
      have HO := Lib.hid (A1.out.2.2.2.2.trans hO)
      obtain ⟨rfl, hM⟩ := he
      have HM := Lib.hid hM
      clear hq hO hM A1
      go_wp2_with fail
      exact ⟨rfl, HO.out, by rw [HE.out]; exact ⟨rfl, HM.out⟩⟩
    rw [hq] at he
    obtain ⟨rfl, hB⟩ := he
    have HR3 := Lib.hid (HR2.out.trans (bindP_ok hq))
    have HB2 := Lib.hid (lt_tail (small_one HB1.out hq) HB1.out)
    have B2 := Lib.hid (AtT.step HP.out A1.out hO hB)
    have k0 := B2.out.2.2.1.cell 0
    have z0 := B2.out.2.2.1.frozen 1
    have kj := B2.out.2.2.1.cell 1
    have A2 := Lib.hid (show AtT 46 #[.int .i64 0, .int .i64 0, .int .i64 0, .float .f64 0] L s k w1.heap.size W.heap.size W _ b2 #[.int .i64 (v1 : Nat), .int .i64 (v2 : Nat), .int .i64 0, .float .f64 0] from B2.out.set HP.out 1 (.int .i64 (v2 : Nat)))
    clear hq hO hB A1 B2
    have k0 := A2.out.2.2.1.cell 0
    have z0 := A2.out.2.2.1.frozen 2
    have kj := A2.out.2.2.1.cell 2
    go_wp2_with (first | (go_at_call 80; refine (hassku_any _ _).mono ?_; rintro e wh ⟨rfl, rfl⟩; rw [h1]) | (go_at_call 81; refine (hasqty_any _ _).mono ?_; rintro e wh ⟨rfl, rfl⟩; rw [h2]) | (go_at_call 83; refine (hasprice_any _ _).mono ?_; rintro e wh ⟨rfl, rfl⟩; rw [h3]))
    clear k0 z0 kj
    refine (rint_any k s b2 _ A2.out.2.1 A2.out.1).mono ?_
    rintro e w3 ⟨hO, he⟩
    rcases hq : intP b2 with x | ⟨v3, b3⟩
    · rw [hq] at he
      have HE := Lib.hid (HR3.out.trans (bindP_err hq))
      have HO := Lib.hid (A2.out.2.2.2.2.trans hO)
      obtain ⟨rfl, hM⟩ := he
      have HM := Lib.hid hM
      clear hq hO hM A2
      go_wp2_with fail
      exact ⟨rfl, HO.out, by rw [HE.out]; exact ⟨rfl, HM.out⟩⟩
    rw [hq] at he
    obtain ⟨rfl, hB⟩ := he
    have HR4 := Lib.hid (HR3.out.trans (bindP_ok hq))
    have HB3 := Lib.hid (lt_tail ((int_one HB2.out hq).1) HB2.out)
    have B3 := Lib.hid (AtT.step HP.out A2.out hO hB)
    have k0 := B3.out.2.2.1.cell 0
    have z0 := B3.out.2.2.1.frozen 2
    have kj := B3.out.2.2.1.cell 2
    have A3 := Lib.hid (show AtT 46 #[.int .i64 0, .int .i64 0, .int .i64 0, .float .f64 0] L s k w1.heap.size W.heap.size W _ b3 #[.int .i64 (v1 : Nat), .int .i64 (v2 : Nat), .int .i64 v3, .float .f64 0] from B3.out.set HP.out 2 (.int .i64 v3))
    clear hq hO hB A2 B3
    have HR5 := Lib.hid (HR4.out.trans (bindP_pure _ _ _))
    obtain ⟨o, ho⟩ : ∃ o, o = OpR.mk (v1 : Nat) (v2 : Nat) v3 0 := ⟨_, rfl⟩
    have A9 := Lib.hid (show AtT 46 #[.int .i64 0, .int .i64 0, .int .i64 0, .float .f64 0] L s k w1.heap.size W.heap.size W _ b3 o.cells.toArray from by rw [ho, op_arr]; exact A3.out)
    rw [← ho] at HR5
    have rgl := A9.out.2.2.1.range
    clear ho A3
    go_wp2_with (first | (refine wpList_load_midg (by rfl) 46 _ rfl _ _ rfl (OpR.cells ?_) _ ?_ Tryz.underlying46 rfl (oinfo _) ?_; rotate_left; (focus assumption)) | (go_at_call 80; refine (hassku_any _ _).mono ?_; rintro e wh ⟨rfl, rfl⟩; rw [h1]) | (go_at_call 81; refine (hasqty_any _ _).mono ?_; rintro e wh ⟨rfl, rfl⟩; rw [h2]) | (go_at_call 83; refine (hasprice_any _ _).mono ?_; rintro e wh ⟨rfl, rfl⟩; rw [h3]))
    clear k0 rgl
    (try clear z0)
    (try clear kj)
    refine (may_any o _).mono ?_
    rintro e w6 ⟨rfl, hb⟩
    have A7 := Lib.hid (A9.out.next HP.out hb)
    clear hb A9
    rcases hq : mayO o with _ | _
    · have HE := Lib.hid (HR5.out.trans (show mkO o b3 = .error 3 by unfold mkO; rw [hq]; rfl))
      clear hq
      go_wp2_with fail
      refine (rmust_not k s b3 w6 A7.out.2.1 A7.out.1).mono ?_
      rintro e w7 ⟨rfl, hM, hO⟩
      have HO := Lib.hid (A7.out.2.2.2.2.trans hO)
      have HM := Lib.hid hM
      clear hM hO A7
      go_wp2_with fail
      exact ⟨rfl, HO.out, by rw [HE.out]; exact ⟨rfl, HM.out⟩⟩
    · have HE := Lib.hid (HR5.out.trans (show mkO o b3 = .ok (o, b3) by unfold mkO; rw [hq]; rfl))
      clear hq
      go_wp2_with fail
      refine (rmust_yes k s b3 w6 A7.out.2.1 A7.out.1).mono ?_
      rintro e w7 ⟨rfl, rfl⟩
      have rgl := A7.out.2.2.1.range
      have bg := A7.out.2.2.2.1
      go_wp2_with (first | (refine wpList_load_midg (by rfl) 46 _ rfl _ _ rfl (OpR.cells ?_) _ ?_ Tryz.underlying46 rfl (oinfo _) ?_; rotate_left; (focus assumption)) | (refine wpList_store_blk rfl 46 _ _ rfl W.heap.size 46 _ o.cells.toArray rfl rfl bg (oinfoA _) (op_siz o) (op_one o) ?_; intro hrow))
      refine bodyPost_row (t := 46) o.cells.toArray rfl rfl rfl Tryz.underlying46 rfl (oinfoA _) hrow ?_
      have hf : ∀ j, j ≠ W.heap.size → (w6.setRow W.heap.size o.cells.toArray).heap[j]? = w6.heap[j]? := fun j hj => setRow_other w6 W.heap.size j _ hj
      have hz : (w6.setRow W.heap.size o.cells.toArray).heap.size = w6.heap.size := by simp
      exact ⟨A7.out.2.2.2.2.turn (Nat.le_refl _) rfl rfl rfl (Nat.le_of_eq hz.symm) hf, by rw [HE.out]; exact ⟨rfl, A7.out.1.turn (Nat.le_of_eq hz.symm) hf HP.out.gs HL.out⟩⟩
  · have HR2 := Lib.hid HR1.out
    rw [h1, h2, h3] at HR2
    simp only [if_true, if_false, Bool.false_eq_true] at HR2
    have k0 := A1.out.2.2.1.cell 0
    have z0 := A1.out.2.2.1.frozen 1
    have kj := A1.out.2.2.1.cell 1
    go_wp2_with (first | (go_at_call 80; refine (hassku_any _ _).mono ?_; rintro e wh ⟨rfl, rfl⟩; rw [h1]) | (go_at_call 81; refine (hasqty_any _ _).mono ?_; rintro e wh ⟨rfl, rfl⟩; rw [h2]) | (go_at_call 83; refine (hasprice_any _ _).mono ?_; rintro e wh ⟨rfl, rfl⟩; rw [h3]))
    clear k0 z0 kj
    refine (rsmall_any k s b1 40 _ A1.out.2.1 A1.out.1 (by decide)).mono ?_
    rintro e w2 ⟨hO, he⟩
    rcases hq : smallP 40 b1 with x | ⟨v2, b2⟩
    · rw [hq] at he
      have HE := Lib.hid (HR2.out.trans (bindP_err hq))
      have HO := Lib.hid (A1.out.2.2.2.2.trans hO)
      obtain ⟨rfl, hM⟩ := he
      have HM := Lib.hid hM
      clear hq hO hM A1
      go_wp2_with fail
      exact ⟨rfl, HO.out, by rw [HE.out]; exact ⟨rfl, HM.out⟩⟩
    rw [hq] at he
    obtain ⟨rfl, hB⟩ := he
    have HR3 := Lib.hid (HR2.out.trans (bindP_ok hq))
    have HB2 := Lib.hid (lt_tail (small_one HB1.out hq) HB1.out)
    have B2 := Lib.hid (AtT.step HP.out A1.out hO hB)
    have k0 := B2.out.2.2.1.cell 0
    have z0 := B2.out.2.2.1.frozen 1
    have kj := B2.out.2.2.1.cell 1
    have A2 := Lib.hid (show AtT 46 #[.int .i64 0, .int .i64 0, .int .i64 0, .float .f64 0] L s k w1.heap.size W.heap.size W _ b2 #[.int .i64 (v1 : Nat), .int .i64 (v2 : Nat), .int .i64 0, .float .f64 0] from B2.out.set HP.out 1 (.int .i64 (v2 : Nat)))
    clear hq hO hB A1 B2
    have HR4 := Lib.hid (HR3.out.trans (bindP_pure _ _ _))
    have k0 := A2.out.2.2.1.cell 0
    have z0 := A2.out.2.2.1.frozen 3
    have kj := A2.out.2.2.1.cell 3
    go_wp2_with (first | (go_at_call 80; refine (hassku_any _ _).mono ?_; rintro e wh ⟨rfl, rfl⟩; rw [h1]) | (go_at_call 81; refine (hasqty_any _ _).mono ?_; rintro e wh ⟨rfl, rfl⟩; rw [h2]) | (go_at_call 83; refine (hasprice_any _ _).mono ?_; rintro e wh ⟨rfl, rfl⟩; rw [h3]))
    clear k0 z0 kj
    refine (rfloat_any k s b2 _ A2.out.2.1 A2.out.1 HB2.out).mono ?_
    rintro e w3 ⟨hO, he⟩
    rcases hq : floatP b2 with x | ⟨v3, b3⟩
    · rw [hq] at he
      have HE := Lib.hid (HR4.out.trans (bindP_err hq))
      have HO := Lib.hid (A2.out.2.2.2.2.trans hO)
      obtain ⟨rfl, hM⟩ := he
      have HM := Lib.hid hM
      clear hq hO hM A2
      go_wp2_with fail
      exact ⟨rfl, HO.out, by rw [HE.out]; exact ⟨rfl, HM.out⟩⟩
    rw [hq] at he
    obtain ⟨rfl, hB⟩ := he
    have HR5 := Lib.hid (HR4.out.trans (bindP_ok hq))
    have HB3 := Lib.hid (lt_tail ((float_one HB2.out hq).1) HB2.out)
    have B3 := Lib.hid (AtT.step HP.out A2.out hO hB)
    have k0 := B3.out.2.2.1.cell 0
    have z0 := B3.out.2.2.1.frozen 3
    have kj := B3.out.2.2.1.cell 3
    have A3 := Lib.hid (show AtT 46 #[.int .i64 0, .int .i64 0, .int .i64 0, .float .f64 0] L s k w1.heap.size W.heap.size W _ b3 #[.int .i64 (v1 : Nat), .int .i64 (v2 : Nat), .int .i64 0, .float .f64 v3] from B3.out.set HP.out 3 (.float .f64 v3))
    clear hq hO hB A2 B3
    obtain ⟨o, ho⟩ : ∃ o, o = OpR.mk (v1 : Nat) (v2 : Nat) 0 v3 := ⟨_, rfl⟩
    have A9 := Lib.hid (show AtT 46 #[.int .i64 0, .int .i64 0, .int .i64 0, .float .f64 0] L s k w1.heap.size W.heap.size W _ b3 o.cells.toArray from by rw [ho, op_arr]; exact A3.out)
    rw [← ho] at HR5
    have rgl := A9.out.2.2.1.range
    clear ho A3
    go_wp2_with (first | (refine wpList_load_midg (by rfl) 46 _ rfl _ _ rfl (OpR.cells ?_) _ ?_ Tryz.underlying46 rfl (oinfo _) ?_; rotate_left; (focus assumption)) | (go_at_call 80; refine (hassku_any _ _).mono ?_; rintro e wh ⟨rfl, rfl⟩; rw [h1]) | (go_at_call 81; refine (hasqty_any _ _).mono ?_; rintro e wh ⟨rfl, rfl⟩; rw [h2]) | (go_at_call 83; refine (hasprice_any _ _).mono ?_; rintro e wh ⟨rfl, rfl⟩; rw [h3]))
    clear k0 rgl
    (try clear z0)
    (try clear kj)
    refine (may_any o _).mono ?_
    rintro e w6 ⟨rfl, hb⟩
    have A7 := Lib.hid (A9.out.next HP.out hb)
    clear hb A9
    rcases hq : mayO o with _ | _
    · have HE := Lib.hid (HR5.out.trans (show mkO o b3 = .error 3 by unfold mkO; rw [hq]; rfl))
      clear hq
      go_wp2_with fail
      refine (rmust_not k s b3 w6 A7.out.2.1 A7.out.1).mono ?_
      rintro e w7 ⟨rfl, hM, hO⟩
      have HO := Lib.hid (A7.out.2.2.2.2.trans hO)
      have HM := Lib.hid hM
      clear hM hO A7
      go_wp2_with fail
      exact ⟨rfl, HO.out, by rw [HE.out]; exact ⟨rfl, HM.out⟩⟩
    · have HE := Lib.hid (HR5.out.trans (show mkO o b3 = .ok (o, b3) by unfold mkO; rw [hq]; rfl))
      clear hq
      go_wp2_with fail
      refine (rmust_yes k s b3 w6 A7.out.2.1 A7.out.1).mono ?_
      rintro e w7 ⟨rfl, rfl⟩
      have rgl := A7.out.2.2.1.range
      have bg := A7.out.2.2.2.1
      go_wp2_with (first | (refine wpList_load_midg (by rfl) 46 _ rfl _ _ rfl (OpR.cells ?_) _ ?_ Tryz.underlying46 rfl (oinfo _) ?_; rotate_left; (focus assumption)) | (refine wpList_store_blk rfl 46 _ _ rfl W.heap.size 46 _ o.cells.toArray rfl rfl bg (oinfoA _) (op_siz o) (op_one o) ?_; intro hrow))
      refine bodyPost_row (t := 46) o.cells.toArray rfl rfl rfl Tryz.underlying46 rfl (oinfoA _) hrow ?_
      have hf : ∀ j, j ≠ W.heap.size → (w6.setRow W.heap.size o.cells.toArray).heap[j]? = w6.heap[j]? := fun j hj => setRow_other w6 W.heap.size j _ hj
      have hz : (w6.setRow W.heap.size o.cells.toArray).heap.size = w6.heap.size := by simp
      exact ⟨A7.out.2.2.2.2.turn (Nat.le_refl _) rfl rfl rfl (Nat.le_of_eq hz.symm) hf, by rw [HE.out]; exact ⟨rfl, A7.out.1.turn (Nat.le_of_eq hz.symm) hf HP.out.gs HL.out⟩⟩
  · have HR2 := Lib.hid HR1.out
    rw [h1, h2, h3] at HR2
    simp only [if_true, if_false, Bool.false_eq_true] at HR2
    have k0 := A1.out.2.2.1.cell 0
    have z0 := A1.out.2.2.1.frozen 1
    have kj := A1.out.2.2.1.cell 1
    go_wp2_with (first | (go_at_call 80; refine (hassku_any _ _).mono ?_; rintro e wh ⟨rfl, rfl⟩; rw [h1]) | (go_at_call 81; refine (hasqty_any _ _).mono ?_; rintro e wh ⟨rfl, rfl⟩; rw [h2]) | (go_at_call 83; refine (hasprice_any _ _).mono ?_; rintro e wh ⟨rfl, rfl⟩; rw [h3]))
    clear k0 z0 kj
    refine (rsmall_any k s b1 40 _ A1.out.2.1 A1.out.1 (by decide)).mono ?_
    rintro e w2 ⟨hO, he⟩
    rcases hq : smallP 40 b1 with x | ⟨v2, b2⟩
    · rw [hq] at he
      have HE := Lib.hid (HR2.out.trans (bindP_err hq))
      have HO := Lib.hid (A1.out.2.2.2.2.trans hO)
      obtain ⟨rfl, hM⟩ := he
      have HM := Lib.hid hM
      clear hq hO hM A1
      go_wp2_with fail
      exact ⟨rfl, HO.out, by rw [HE.out]; exact ⟨rfl, HM.out⟩⟩
    rw [hq] at he
    obtain ⟨rfl, hB⟩ := he
    have HR3 := Lib.hid (HR2.out.trans (bindP_ok hq))
    have HB2 := Lib.hid (lt_tail (small_one HB1.out hq) HB1.out)
    have B2 := Lib.hid (AtT.step HP.out A1.out hO hB)
    have k0 := B2.out.2.2.1.cell 0
    have z0 := B2.out.2.2.1.frozen 1
    have kj := B2.out.2.2.1.cell 1
    have A2 := Lib.hid (show AtT 46 #[.int .i64 0, .int .i64 0, .int .i64 0, .float .f64 0] L s k w1.heap.size W.heap.size W _ b2 #[.int .i64 (v1 : Nat), .int .i64 (v2 : Nat), .int .i64 0, .float .f64 0] from B2.out.set HP.out 1 (.int .i64 (v2 : Nat)))
    clear hq hO hB A1 B2
    have HR4 := Lib.hid (HR3.out.trans (bindP_pure _ _ _))
    have HR5 := Lib.hid (HR4.out.trans (bindP_pure _ _ _))
    obtain ⟨o, ho⟩ : ∃ o, o = OpR.mk (v1 : Nat) (v2 : Nat) 0 0 := ⟨_, rfl⟩
    have A9 := Lib.hid (show AtT 46 #[.int .i64 0, .int .i64 0, .int .i64 0, .float .f64 0] L s k w1.heap.size W.heap.size W _ b2 o.cells.toArray from by rw [ho, op_arr]; exact A2.out)
    rw [← ho] at HR5
    have rgl := A9.out.2.2.1.range
    clear ho A2
    go_wp2_with (first | (refine wpList_load_midg (by rfl) 46 _ rfl _ _ rfl (OpR.cells ?_) _ ?_ Tryz.underlying46 rfl (oinfo _) ?_; rotate_left; (focus assumption)) | (go_at_call 80; refine (hassku_any _ _).mono ?_; rintro e wh ⟨rfl, rfl⟩; rw [h1]) | (go_at_call 81; refine (hasqty_any _ _).mono ?_; rintro e wh ⟨rfl, rfl⟩; rw [h2]) | (go_at_call 83; refine (hasprice_any _ _).mono ?_; rintro e wh ⟨rfl, rfl⟩; rw [h3]))
    clear k0 rgl
    (try clear z0)
    (try clear kj)
    refine (may_any o _).mono ?_
    rintro e w6 ⟨rfl, hb⟩
    have A7 := Lib.hid (A9.out.next HP.out hb)
    clear hb A9
    rcases hq : mayO o with _ | _
    · have HE := Lib.hid (HR5.out.trans (show mkO o b2 = .error 3 by unfold mkO; rw [hq]; rfl))
      clear hq
      go_wp2_with fail
      refine (rmust_not k s b2 w6 A7.out.2.1 A7.out.1).mono ?_
      rintro e w7 ⟨rfl, hM, hO⟩
      have HO := Lib.hid (A7.out.2.2.2.2.trans hO)
      have HM := Lib.hid hM
      clear hM hO A7
      go_wp2_with fail
      exact ⟨rfl, HO.out, by rw [HE.out]; exact ⟨rfl, HM.out⟩⟩
    · have HE := Lib.hid (HR5.out.trans (show mkO o b2 = .ok (o, b2) by unfold mkO; rw [hq]; rfl))
      clear hq
      go_wp2_with fail
      refine (rmust_yes k s b2 w6 A7.out.2.1 A7.out.1).mono ?_
      rintro e w7 ⟨rfl, rfl⟩
      have rgl := A7.out.2.2.1.range
      have bg := A7.out.2.2.2.1
      go_wp2_with (first | (refine wpList_load_midg (by rfl) 46 _ rfl _ _ rfl (OpR.cells ?_) _ ?_ Tryz.underlying46 rfl (oinfo _) ?_; rotate_left; (focus assumption)) | (refine wpList_store_blk rfl 46 _ _ rfl W.heap.size 46 _ o.cells.toArray rfl rfl bg (oinfoA _) (op_siz o) (op_one o) ?_; intro hrow))
      refine bodyPost_row (t := 46) o.cells.toArray rfl rfl rfl Tryz.underlying46 rfl (oinfoA _) hrow ?_
      have hf : ∀ j, j ≠ W.heap.size → (w6.setRow W.heap.size o.cells.toArray).heap[j]? = w6.heap[j]? := fun j hj => setRow_other w6 W.heap.size j _ hj
      have hz : (w6.setRow W.heap.size o.cells.toArray).heap.size = w6.heap.size := by simp
      exact ⟨A7.out.2.2.2.2.turn (Nat.le_refl _) rfl rfl rfl (Nat.le_of_eq hz.symm) hf, by rw [HE.out]; exact ⟨rfl, A7.out.1.turn (Nat.le_of_eq hz.symm) hf HP.out.gs HL.out⟩⟩
end Go.Proofs.YtgnfachjobohoaaGreat
namespace Go.Proofs.YtgnfachjobohoaaGreat
open Go.RowKit

theorem sameO_eq {a b : OpR} (h : sameO a b = true) : a = b := by
  unfold sameO Num.sameB at h
  simp only [Bool.and_eq_true, decide_eq_true_eq, beq_iff_eq] at h
  obtain ⟨k, s, q, p⟩ := a
  obtain ⟨k', s', q', p'⟩ := b
  dsimp only at h
  obtain ⟨rfl, rfl, rfl, rfl⟩ := h
  rfl
theorem sameO_self (a : OpR) : sameO a a = true := by unfold sameO Num.sameB; simp
theorem withinB_iff {n a b : Int} : withinB n a b = true ↔ a ≤ n ∧ n ≤ b := by unfold withinB; simp
/-- What an op that may be is. -/
theorem may_facts {o : OpR} (h : mayO o = true) : ∃ k s : Nat, o.k = (k : Nat) ∧ 1 ≤ k ∧ k ≤ 6 ∧ o.s = (s : Nat) ∧ s ≤ 40 ∧ -1000 ≤ o.q ∧ o.q ≤ 1000 ∧ (hasS o.k = false → o.s = 0) ∧ (hasQ o.k = false → o.q = 0) ∧ (hasP o.k = false → o.p = 0) := by
  unfold mayO at h
  simp only [Bool.and_eq_true] at h
  obtain ⟨h1, h2⟩ := h
  have h3 := sameO_eq h1
  have hs : o.s = if hasS o.k then o.s else 0 := congrArg OpR.s h3
  have hq : o.q = if hasQ o.k then o.q else 0 := congrArg OpR.q h3
  have hp : o.p = if hasP o.k then o.p else 0 := congrArg OpR.p h3
  have hs0 : hasS o.k = false → o.s = 0 := fun e => by rw [hs, e]; rfl
  have hq0 : hasQ o.k = false → o.q = 0 := fun e => by rw [hq, e]; rfl
  have hp0 : hasP o.k = false → o.p = 0 := fun e => by rw [hp, e]; rfl
  have key : (1 ≤ o.k ∧ o.k ≤ 6) ∧ (0 ≤ o.s ∧ o.s ≤ 40) ∧ (-1000 ≤ o.q ∧ o.q ≤ 1000) := by
    unfold bodyB at h2
    split at h2
    · simp only [Bool.and_eq_true, withinB_iff] at h2; omega
    split at h2
    · simp only [Bool.and_eq_true, withinB_iff] at h2; omega
    split at h2
    · simp only [Bool.and_eq_true, withinB_iff] at h2; omega
    split at h2
    · rename_i hk
      have hq1 := hq0 (by unfold hasQ; rcases hk with hk | hk <;> rw [hk] <;> decide)
      simp only [withinB_iff] at h2
      omega
    · have hk : o.k = 4 := by simpa using h2
      have hq1 := hq0 (by rw [hk]; decide)
      have hs1 := hs0 (by rw [hk]; decide)
      omega
  obtain ⟨k, hk⟩ := Int.eq_ofNat_of_zero_le (show 0 ≤ o.k by omega)
  obtain ⟨s, hs⟩ := Int.eq_ofNat_of_zero_le (show 0 ≤ o.s by omega)
  exact ⟨k, s, hk, by omega, by omega, hs, by omega, by omega, by omega, hs0, hq0, hp0⟩
theorem may_ok {o : OpR} (h : mayO o = true) (hp : o.p < 18446744073709551616) : o.Ok := by
  obtain ⟨k, s, h1, h2, h3, h4, h5, h6, h7, _⟩ := may_facts h
  exact ⟨by omega, by omega, by omega, by omega, by omega, by omega, hp⟩
theorem back_if {α : Type} {b : Bool} {P : List Nat → Except Int (α × List Nat)} {E : List Nat} {x x0 : α} (h1 : b = true → Back P E x) (h0 : b = false → x = x0) : Back (if b then P else pureP x0) (if b then E else []) x := by
  cases b with
  | true => simpa using h1 rfl
  | false => rw [h0 rfl]; exact back_pure x0
theorem op_back {o : OpR} (h : mayO o = true) (hp : o.p < 18446744073709551616) : Back opP (encO o) o := by
  obtain ⟨k, s, h1, h2, h3, h4, h5, h6, h7, h8, h9, h10⟩ := may_facts h
  have e0 : OpR.mk (k : Nat) (s : Nat) o.q o.p = o := by obtain ⟨_, _, _, _⟩ := o; dsimp only at *; rw [h1, h4]
  have hm : Back (mkO (OpR.mk (k : Nat) (s : Nat) o.q o.p)) [] o := by
    rw [e0]
    exact ⟨fun t => by unfold mkO; rw [if_pos h]; rfl, fun k hk => by simp at hk⟩
  have e1 : encO o = enc k ++ ((if hasS (k : Nat) then enc s else []) ++ ((if hasQ (k : Nat) then enc (zig o.q) else []) ++ ((if hasP (k : Nat) then encF o.p else []) ++ []))) := by
    unfold encO
    rw [h1, h4, wordN_nat k (by omega), wordN_nat s (by omega), List.append_nil]
  rw [h1] at h8 h9 h10
  rw [e1, opP_def]
  refine (small_back _ _ (by omega) (by omega)).bind ((back_if (fun _ => small_back _ _ (by omega) (by omega)) (fun e => ?_)).bind ((back_if (fun _ => int_back o.q (by omega) (by omega)) h9).bind ((back_if (fun _ => float_back o.p hp) h10).bind hm)))
  have := h8 e
  omega
theorem one_if {α : Type} {b : Bool} {P : List Nat → Except Int (α × List Nat)} {bs t : List Nat} {x x0 : α} {E : α → List Nat} (h : (if b then P else pureP x0) bs = .ok (x, t)) (h1 : P bs = .ok (x, t) → bs = E x ++ t) : bs = (if b then E x else []) ++ t := by
  cases b with
  | true => simpa using h1 (by simpa using h)
  | false => simp [pureP] at h; simp [h.2]
theorem op_ok {bs t : List Nat} {o : OpR} (hb : ∀ x ∈ bs, x < 256) (h : opP bs = .ok (o, t)) : bs = encO o ++ t ∧ mayO o = true ∧ o.p < 18446744073709551616 := by
  rw [opP_def] at h
  obtain ⟨k, b1, q1, h⟩ := bindP_inv h
  obtain ⟨s, b2, q2, h⟩ := bindP_inv h
  obtain ⟨q, b3, q3, h⟩ := bindP_inv h
  obtain ⟨p, b4, q4, h⟩ := bindP_inv h
  unfold mkO at h
  split at h
  · rename_i hr
    cases h
    have e1 := small_one hb q1
    have hb1 := lt_tail e1 hb
    have e2 := one_if (E := enc) q2 (small_one hb1)
    have hb2 := lt_tail e2 hb1
    have e3 := one_if (E := fun q => enc (zig q)) q3 (fun h => (int_one hb2 h).1)
    have hb3 := lt_tail e3 hb2
    have e4 := one_if (E := encF) q4 (fun h => (float_one hb3 h).1)
    have l1 := (small_ok q1).2
    have l2 : s ≤ 40 := by
      cases hs : hasS (k : Nat) with
      | true => rw [hs] at q2; have := (small_ok (by simpa using q2)).2; omega
      | false => rw [hs] at q2; simp [pureP] at q2; omega
    have l4 : p < 18446744073709551616 := by
      cases hs : hasP (k : Nat) with
      | true => rw [hs] at q4; exact (float_one hb3 (by simpa using q4)).2
      | false => rw [hs] at q4; simp [pureP] at q4; omega
    refine ⟨?_, hr, l4⟩
    unfold encO
    dsimp only
    rw [wordN_nat k (by omega), wordN_nat s (by omega)]
    rw [e1, e2, e3, e4]
    simp only [List.append_assoc]
  · cases h
theorem intP_ne (bs : List Nat) (x : Int) (h : intP bs = .error x) : x ≠ 0 := by
  unfold intP at h
  split at h
  · split at h
    · cases h
    · cases h; decide
  · rename_i y hy
    cases h
    exact smallP_ne (most := 0) (by unfold smallP; rw [hy])
theorem floatP_ne (bs : List Nat) (x : Int) (h : floatP bs = .error x) : x ≠ 0 := by
  unfold floatP at h
  split at h
  · cases h
  · cases h; decide
theorem if_ne {α : Type} {b : Bool} {P : List Nat → Except Int (α × List Nat)} {x0 : α} (h : ∀ bs x, P bs = .error x → x ≠ 0) : ∀ bs x, (if b then P else pureP x0) bs = .error x → x ≠ 0 := fun bs x e => by
  cases b with
  | true => exact h bs x (by simpa using e)
  | false => simp [pureP] at e
theorem opP_ne (bs : List Nat) (x : Int) (h : opP bs = .error x) : x ≠ 0 := by
  rw [opP_def] at h
  refine bindP_ne (fun _ _ => smallP_ne) (fun k => ?_) bs x h
  refine bindP_ne (if_ne fun _ _ => smallP_ne) (fun s => ?_)
  refine bindP_ne (if_ne intP_ne) (fun q => ?_)
  refine bindP_ne (if_ne floatP_ne) (fun p bs x h => ?_)
  unfold mkO at h
  split at h
  · cases h
  · cases h; decide

/-- The event that bytes begin with. -/
def mkE (x : Ev) (t : List Nat) : Except Int (Ev × List Nat) := if rightE x then .ok (x, t) else .error 3
def evP : List Nat → Except Int (Ev × List Nat) := bindP labP fun l => bindP opP fun o => mkE ⟨l, o⟩
attribute [irreducible] evP
theorem evP_def : evP = bindP labP fun l => bindP opP fun o => mkE ⟨l, o⟩ := by unfold evP; rfl
theorem evP_ne (bs : List Nat) (x : Int) (h : evP bs = .error x) : x ≠ 0 := by
  rw [evP_def] at h
  refine bindP_ne labP_ne (fun l => ?_) bs x h
  refine bindP_ne opP_ne (fun o bs x h => ?_)
  unfold mkE at h
  split at h
  · cases h
  · cases h; decide
def encE (x : Ev) : List Nat := encL x.l ++ encO x.o
structure Ev.Ok (x : Ev) : Prop where
  l : x.l.Ok
  o : x.o.Ok
def asReadE (x : Ev) : Ev := ⟨asRead x.l, x.o⟩
theorem asReadE_same (x : Ev) : rightE (asReadE x) = rightE x ∧ encE (asReadE x) = encE x ∧ (asReadE x).cells = x.cells := by
  obtain ⟨h1, h2, h3⟩ := asRead_same x.l
  refine ⟨?_, ?_, ?_⟩
  · unfold rightE asReadE; dsimp only; rw [h1]; rfl
  · unfold encE asReadE; dsimp only; rw [h2]
  · rw [ev_def, ev_def]; unfold asReadE; dsimp only; rw [h3]
theorem rightE_parts {x : Ev} (h : rightE x = true) : rightL x.l = true ∧ mayO x.o = true := by
  unfold rightE at h
  simp only [Bool.and_eq_true] at h
  exact ⟨h.1, h.2.2⟩
theorem ev_back {x : Ev} (h : rightE x = true) (hf : ∀ i, x.l.f i < 4294967296) (hp : x.o.p < 18446744073709551616) : Back evP (encE x) (asReadE x) := by
  obtain ⟨h1, h2⟩ := rightE_parts h
  have hr := (asReadE_same x).1.trans h
  have hm : Back (mkE (asReadE x)) [] (asReadE x) := ⟨fun t => by unfold mkE; rw [if_pos hr]; rfl, fun k hk => by simp at hk⟩
  have e : encE x = encL x.l ++ (encO x.o ++ []) := by unfold encE; rw [List.append_nil]
  rw [e, evP_def]
  exact (lab_back h1 hf).bind ((op_back h2 hp).bind hm)
theorem ev_ok {bs t : List Nat} {x : Ev} (hb : ∀ y ∈ bs, y < 256) (h : evP bs = .ok (x, t)) : bs = encE x ++ t ∧ rightE x = true ∧ (∀ i, x.l.f i < 4294967296) ∧ x.o.p < 18446744073709551616 := by
  rw [evP_def] at h
  obtain ⟨l, b1, q1, h⟩ := bindP_inv h
  obtain ⟨o, b2, q2, h⟩ := bindP_inv h
  unfold mkE at h
  split at h
  · rename_i hr
    cases h
    obtain ⟨e1, _, e3, _⟩ := lab_ok hb q1
    obtain ⟨e4, _, e6⟩ := op_ok (lt_tail e1 hb) q2
    refine ⟨?_, hr, e3, e6⟩
    unfold encE
    rw [e1, e4, List.append_assoc]
  · cases h
theorem ev_cut {x : Ev} (h : rightE x = true) (hf : ∀ i, x.l.f i < 4294967296) (hp : x.o.p < 18446744073709551616) {k : Nat} (hk : k < (encE x).length) : ∀ m, evP ((encE x).take k) ≠ .ok (m, []) := fun m e => by
  rw [(ev_back h hf hp).2 k hk] at e; cases e
theorem ev_yes {x : Ev} (h : rightE x = true) (hf : ∀ i, x.l.f i < 4294967296) (hp : x.o.p < 18446744073709551616) : evP (encE x) = .ok (asReadE x, []) := by
  have := (ev_back h hf hp).1 []
  rwa [List.append_nil] at this
theorem ev_more {x : Ev} (h : rightE x = true) (hf : ∀ i, x.l.f i < 4294967296) (hp : x.o.p < 18446744073709551616) (r : List Nat) (hr : r ≠ []) : ∀ m, evP (encE x ++ r) ≠ .ok (m, []) := fun m e => by
  rw [(ev_back h hf hp).1 r] at e; cases e; exact hr rfl

theorem setL_mid : ∀ (vs A pre post : List Value), A.length = vs.length → setL (pre ++ A ++ post).toArray pre.length vs = (pre ++ vs ++ post).toArray
  | [], A, pre, post, h => by
    obtain rfl : A = [] := List.length_eq_zero_iff.1 h
    rfl
  | v :: r, [], pre, post, h => by cases h
  | v :: r, a :: A, pre, post, h => by
    have h2 : (pre ++ a :: A ++ post).toArray.setIfInBounds pre.length v = (pre ++ [v] ++ A ++ post).toArray := by simp
    have ih := setL_mid r A (pre ++ [v]) post (by simpa using h)
    rw [List.length_append] at ih
    show setL ((pre ++ a :: A ++ post).toArray.setIfInBounds pre.length v) (pre.length + 1) r = _
    rw [h2]
    exact ih.trans (by simp)
def zOpL : List Value := [.int .i64 0, .int .i64 0, .int .i64 0, .float .f64 0]
theorem zev_lab (l : Lab) : setL #[.int .u64 0, .int .i64 0, .int .u32 0, .int .i64 0, .int .i64 0, .int .u32 0, .int .u32 0, .int .u32 0, .int .u32 0, .int .u32 0, .int .u32 0, .int .u32 0, .int .u32 0, .int .u32 0, .int .u32 0, .int .u32 0, .int .u32 0, .int .i64 0, .int .i64 0, .int .i64 0, .float .f64 0] 0 l.cells = (l.cells ++ zOpL).toArray :=
  setL_mid l.cells [.int .u64 0, .int .i64 0, .int .u32 0, .int .i64 0, .int .i64 0, .int .u32 0, .int .u32 0, .int .u32 0, .int .u32 0, .int .u32 0, .int .u32 0, .int .u32 0, .int .u32 0, .int .u32 0, .int .u32 0, .int .u32 0, .int .u32 0] [] zOpL (by rw [lab_len]; rfl)
theorem zev_op (l : Lab) (o : OpR) : setL (l.cells ++ zOpL).toArray 17 o.cells = (Ev.mk l o).cells.toArray := by
  have := setL_app o.cells zOpL l.cells (by rw [op_len]; rfl)
  rw [lab_len] at this
  rw [this, ev_def]
theorem ev_siz (x : Ev) : (#[.int .u64 0, .int .i64 0, .int .u32 0, .int .i64 0, .int .i64 0, .int .u32 0, .int .u32 0, .int .u32 0, .int .u32 0, .int .u32 0, .int .u32 0, .int .u32 0, .int .u32 0, .int .u32 0, .int .u32 0, .int .u32 0, .int .u32 0, .int .i64 0, .int .i64 0, .int .i64 0, .float .f64 0] : Array Value).size = x.cells.toArray.size := show 21 = x.cells.toArray.size by rw [List.size_toArray, ev_len]

variable {L : Nat}
end Go.Proofs.YtgnfachjobohoaaGreat

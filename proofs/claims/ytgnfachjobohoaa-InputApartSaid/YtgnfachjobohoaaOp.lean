/-
Ops: their cells; within, hasSku, hasQty, hasPrice, sameOp, parts, May, Customers.
-/
import Derived.Test.YtgnfachjobohoaaLOpen
namespace Go.Proofs.Ytgnfachjobohoaa
open Go.RowKit

/-- An op: of a price the bits. -/
structure OpR where
  (k s q : Int)
  (p : Nat)
def OpR.cells (o : OpR) : List Value := [.int .i64 o.k, .int .i64 o.s, .int .i64 o.q, .float .f64 o.p]
theorem op_len {o : OpR} : o.cells.length = 4 := rfl
theorem op_arr (o : OpR) : o.cells.toArray = #[.int .i64 o.k, .int .i64 o.s, .int .i64 o.q, .float .f64 o.p] := rfl
theorem op_0 {o : OpR} : o.cells[0]? = some (.int .i64 o.k) := rfl
theorem op_1 {o : OpR} : o.cells[1]? = some (.int .i64 o.s) := rfl
theorem op_2 {o : OpR} : o.cells[2]? = some (.int .i64 o.q) := rfl
theorem op_3 {o : OpR} : o.cells[3]? = some (.float .f64 o.p) := rfl
theorem op_cells (o : OpR) : o.cells = [.int .i64 o.k, .int .i64 o.s, .int .i64 o.q, .float .f64 o.p] := rfl
theorem op_one (o : OpR) : o.cells.toArray.all (·.oneCell') = true := by unfold OpR.cells; simp [Value.oneCell']
attribute [irreducible] OpR.cells
theorem oinfo (o : OpR) : (Try.prog.info? 40).map (·.size) = some o.cells.length := by rw [op_len]; kernel_rfl
theorem oinfoA (o : OpR) : (Try.prog.info? 40).map (·.size) = some o.cells.toArray.size := by rw [List.size_toArray, op_len]; kernel_rfl

def withinB (n a b : Int) : Bool := decide (a ≤ n) && decide (n ≤ b)
theorem within_any (n a b : Int) (W : World) : Calls Try.prog 49 #[.int .i64 n, .int .i64 a, .int .i64 b] W fun e W' => e = .returned (.bool (withinB n a b)) ∧ W = W' := by
  unfold withinB
  cases h1 : decide (a ≤ n) with
  | true =>
    rw [Bool.true_and]
    go_enter Try.func49, Try.ntmps49
    go_wp2_with fail
    go_ret
    exact ⟨rfl, rfl⟩
  | false =>
    rw [Bool.false_and]
    go_enter Try.func49, Try.ntmps49
    go_wp2_with fail
    go_ret
    exact ⟨rfl, rfl⟩
def hasS (k : Int) : Bool := k != 4
def hasQ (k : Int) : Bool := (k == 1) || ((k == 2) || (k == 5))
def hasP (k : Int) : Bool := k == 6
theorem hassku_any (k : Int) (W : World) : Calls Try.prog 52 #[.int .i64 k] W fun e W' => e = .returned (.bool (hasS k)) ∧ W = W' := by
  go_enter Try.func52, Try.ntmps52
  go_wp2_with fail
  go_ret
  exact ⟨rfl, rfl⟩
theorem hasprice_any (k : Int) (W : World) : Calls Try.prog 55 #[.int .i64 k] W fun e W' => e = .returned (.bool (hasP k)) ∧ W = W' := by
  go_enter Try.func55, Try.ntmps55
  go_wp2_with fail
  go_ret
  exact ⟨rfl, rfl⟩
theorem hasqty_any (k : Int) (W : World) : Calls Try.prog 53 #[.int .i64 k] W fun e W' => e = .returned (.bool (hasQ k)) ∧ W = W' := by
  unfold hasQ
  cases h1 : (k == 1) with
  | true =>
    go_enter Try.func53, Try.ntmps53
    go_wp2_with fail
    go_ret
    exact ⟨rfl, rfl⟩
  | false =>
    cases h2 : (k == 2) with
    | true =>
      go_enter Try.func53, Try.ntmps53
      go_wp2_with fail
      go_ret
      exact ⟨rfl, rfl⟩
    | false =>
      go_enter Try.func53, Try.ntmps53
      go_wp2_with fail
      go_ret
      exact ⟨rfl, rfl⟩

theorem part_f64 {xs : Array Value} {o : Nat} {v : Value} (h : xs[o]? = some v) (w : World) : (part 38 xs o).run Try.prog w = .ok v w := by
  simp [part, isAgg, run_underlying Try.underlying38, h]
theorem eq_float0' (d : Nat) (w : World) : (Op.equalIn (d + 1) 38 (.float .f64 0) (.float .f64 0)).run Try.prog w = .ok true w := by
  simp only [Op.equalIn, Sem.run_bind, run_underlying Try.underlying38, Result.andThen_ok]
  simp
  exact by decide
theorem eq_float0 (w : World) : (Op.equalIn 9999 38 (.float .f64 0) (.float .f64 0)).run Try.prog w = .ok true w := eq_float0' 9998 w
set_option maxRecDepth 20000 in
theorem opFields : (Try.prog.fieldsOf 40).toList.map (fun f => (f.name != "_", f.type, f.offset)) = [(true, 3, 0), (true, 3, 1), (true, 3, 2), (true, 38, 3)] := by kernel_rfl
set_option maxRecDepth 20000 in
theorem eq_op0 (k s q k2 s2 q2 : Int) (w : World) : (Op.equalIn 10000 40 (.agg #[.int .i64 k, .int .i64 s, .int .i64 q, .float .f64 0]) (.agg #[.int .i64 k2, .int .i64 s2, .int .i64 q2, .float .f64 0])).run Try.prog w = .ok ((k == k2) && ((s == s2) && (q == q2))) w := by
  rw [run_equalIn_struct w 9999 _ _ _ (by kernel_rfl) (by kernel_rfl), eq_tr 9999 _ _ _ _ w opFields]
  rw [run_eqTr w (part_int rfl) (part_int rfl) (fun w => run_equalIn_int w 9998 _ _ _ _ _ Try.underlying3), run_eqTr w (part_int rfl) (part_int rfl) (fun w => run_equalIn_int w 9998 _ _ _ _ _ Try.underlying3), run_eqTr w (part_int rfl) (part_int rfl) (fun w => run_equalIn_int w 9998 _ _ _ _ _ Try.underlying3), run_eqTr w (part_f64 rfl) (part_f64 rfl) eq_float0]
  cases h1 : (k == k2) <;> cases h2 : (s == s2) <;> cases h3 : (q == q2) <;> simp [eqTr]
theorem run_store_f64 (P : Program) (w : World) (a : Addr) (m : Mode) (k : FloatKind) (n : Nat) : (store a (.float k n) m).run P w = stored P w a (.float k n) m := run_store P w a _ m rfl
attribute [local go_sem] run_store_f64
def sameO (a b : OpR) : Bool := Num.sameB a.p b.p && ((a.k == b.k) && ((a.s == b.s) && (a.q == b.q)))
set_option maxRecDepth 20000 in
set_option maxHeartbeats 1000000 in
theorem sameop_any (a b : OpR) (W : World) : Calls Try.prog 46 #[.agg a.cells.toArray, .agg b.cells.toArray] W fun e W' => e = .returned (.bool (sameO a b)) ∧ Below W.heap.size W W' := by
  unfold sameO
  rw [op_arr, op_arr]
  have hq := fun w => eq_op0 a.k a.s a.q b.k b.s b.q w
  cases hs : Num.sameB a.p b.p with
  | true =>
    rw [Bool.true_and]
    go_enter Try.func46, Try.ntmps46
    go_wp2_with (go_at_call 68; refine (tsame_any _ _ _).mono ?_; rintro e w1 ⟨rfl, rfl⟩; rw [hs])
    go_ret
    exact ⟨rfl, by (repeat' (first | exact Below.refl _ _ | assumption | (with_reducible refine below_alloc' ?_) | (with_reducible refine Below.drew ?_) | (with_reducible refine below_next' (by assumption) ?_) | (with_reducible refine below_setRow ?_ ?_ _) | (with_reducible refine Below.setCell ?_ ?_ _) | (with_reducible refine below_next (by assumption) ?_ ?_) | (with_reducible refine Below.alloc ?_ ?_ _) | exact Nat.le_refl _ | (exact below_size (by assumption)) | (with_reducible refine size_alloc ?_) | (with_reducible refine size_setRow' ?_) | (with_reducible refine size_setCell' ?_) | (with_reducible refine size_next (by assumption) ?_) | omega | (simp; done) | (simp; omega)))⟩
  | false =>
    rw [Bool.false_and]
    clear hq
    go_enter Try.func46, Try.ntmps46
    go_wp2_with (go_at_call 68; refine (tsame_any _ _ _).mono ?_; rintro e w1 ⟨rfl, rfl⟩; rw [hs])
    go_ret
    exact ⟨rfl, by (repeat' (first | exact Below.refl _ _ | assumption | (with_reducible refine below_alloc' ?_) | (with_reducible refine Below.drew ?_) | (with_reducible refine below_next' (by assumption) ?_) | (with_reducible refine below_setRow ?_ ?_ _) | (with_reducible refine Below.setCell ?_ ?_ _) | (with_reducible refine below_next (by assumption) ?_ ?_) | (with_reducible refine Below.alloc ?_ ?_ _) | exact Nat.le_refl _ | (exact below_size (by assumption)) | (with_reducible refine size_alloc ?_) | (with_reducible refine size_setRow' ?_) | (with_reducible refine size_setCell' ?_) | (with_reducible refine size_next (by assumption) ?_) | omega | (simp; done) | (simp; omega)))⟩
end Go.Proofs.Ytgnfachjobohoaa

/-
The document's marks compared; its Join.
-/
import Derived.Test.YtlejnjgepnjceaaMkRef
namespace Go.Proofs.Ytlejnjgepnjceaa
open Go.RowKit

theorem rm_part_bool {xs : Array Value} {o : Nat} {v : Value} (h : xs[o]? = some v) (w : World) : (part 4 xs o).run Try.prog w = .ok v w := by
  simp [part, isAgg, run_underlying Try.underlying4, h]
theorem rm_part_u64 {xs : Array Value} {o : Nat} {v : Value} (h : xs[o]? = some v) (w : World) : (part 22 xs o).run Try.prog w = .ok v w := by
  simp [part, isAgg, run_underlying Try.underlying22, h]
set_option maxRecDepth 20000 in
theorem eq_rm (a b : Mk) (w : World) : (Op.equalIn 10000 63 (.agg a.rcells.toArray) (.agg b.rcells.toArray)).run Try.prog w = .ok (sameM a b) w := by
  rw [rmk_arr, rmk_arr]
  rw [run_equalIn_struct w 9999 _ _ _ (by kernel_rfl) (by kernel_rfl), Mkl.eq_tr 9999 _ _ _ _ w rmFields]
  rw [Mkl.run_eqTr w (Mkl.part_int rfl) (Mkl.part_int rfl) (fun w => run_equalIn_int w 9998 _ _ _ _ _ Try.underlying3), Mkl.run_eqTr w (rm_part_bool rfl) (rm_part_bool rfl) (fun w => run_equalIn_bool w 9998 _ _ _ Try.underlying4), Mkl.run_eqTr w (rm_part_u64 rfl) (rm_part_u64 rfl) (fun w => run_equalIn_int w 9998 _ _ _ _ _ Try.underlying22)]
  have h3 : (((a.p : Nat) : Int) == ((b.p : Nat) : Int)) = Num.sameB a.p b.p := by unfold Num.sameB; rw [Bool.eq_iff_iff]; simp; omega
  rw [h3]
  unfold sameM
  cases h1 : (a.f == b.f) <;> cases h2 : (a.h == b.h) <;> cases h4 : Num.sameB a.p b.p <;> simp [Mkl.eqTr]
theorem bothM_f {a m : Mk} : (bothM a m).f = if a.f < m.f then m.f else a.f := by show max a.f m.f = _; split <;> omega
theorem bothM_pr {a m : Mk} : ((bothM a m).h, (bothM a m).p) = if m.h && (!a.h || decide (Num.key a.p < Num.key m.p)) then (true, m.p) else (a.h, a.p) := by
  unfold bothM Num.joinN
  cases a.h <;> cases m.h <;> simp
  split <;> rfl
end Go.Proofs.Ytlejnjgepnjceaa

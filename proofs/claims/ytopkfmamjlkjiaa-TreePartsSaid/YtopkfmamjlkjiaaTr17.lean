/-
tree: an array of kinds, by value, at an index.
-/
import Derived.Test.YtopkfmamjlkjiaaTr16
import Derived.Test.YtopkfmamjlkjiaaWrite
namespace Go.Proofs.Ytopkfmamjlkjiaa
open Go.RowKit
set_option linter.unusedSimpArgs false
set_option linter.unusedVariables false
namespace Tr
theorem klinfo (k : Nat → Int) : (Try.prog.info? 22).map (·.size) = some (kl k).length := by rw [kl_len]; kernel_rfl
theorem intsize : (Try.prog.info? 3).map (·.size) = some 1 := by kernel_rfl
set_option maxRecDepth 20000 in
/-- kinds[j], of the array by value. -/
theorem run_index_kl (k : Nat → Int) (j : Nat) (hj : j < 12) (w : World) : (Instr.index 22 (.agg (kl k).toArray) (.int .i64 (j : Nat))).run Try.prog w = .ok (.int .i64 (k j)) w := by
  have h1 : (0 : Int) ≤ (j : Nat) ∧ ((j : Nat) : Int) < 12 := by omega
  have h2 : (kl k).toArray[j]? = some (.int .i64 (k j)) := by rw [List.getElem?_toArray]; exact kl_get k hj
  have h3 : (kl k)[j]? = some (.int .i64 (k j)) := kl_get k hj
  have h4 : (sizeOf 3).run Try.prog w = .ok 1 w := by
    obtain ⟨i, z, hi, -, hs, -⟩ := info_int
    rw [run_sizeOf w hi]
    rw [show Try.prog.cellsOf 3 = 1 by kernel_rfl]
  have h5 : (part 3 (kl k).toArray j).run Try.prog w = .ok (.int .i64 (k j)) w := by
    unfold part isAgg
    simp only [Sem.run_bind, run_underlying Try.underlying3, Result.andThen_ok]
    simp only [Sem.run_pure, Result.andThen_ok, Bool.false_eq_true, if_false]
    rw [h2]
    rfl
  unfold Instr.index
  simp only [asIntOf, Sem.run_bind, Sem.run_pure, run_underlying Try.underlying22, Result.andThen_ok]
  rw [if_pos (show (0 : Int) ≤ ((j : Nat) : Int) ∧ ((j : Nat) : Int) < ((12 : Nat) : Int) from ⟨by omega, by omega⟩)]
  simp only [Sem.run_bind, h4, Result.andThen_ok, Int.toNat_natCast, Nat.mul_one]
  exact h5
theorem wpList_index_kl {ops : Array Oper} {rest : List Oper} {o : Oper} {a : Act} {w : World} {Q : Exit → Act → World → Prop} (hgd : o.guard = none) (x y : Operand) (ho : o.op = .index 22 x y)
    (k : Nat → Int) (j : Nat) (hj : j < 12) (hx : a.eval x = .agg (kl k).toArray) (hy : a.eval y = .int .i64 ((j : Nat) : Int)) (h : wpList Try.prog ops Q rest (a.put o.dst (.int .i64 (k j))) w) : wpList Try.prog ops Q (o :: rest) a w := by
  refine wpList_plain hgd fun K hK => ?_
  unfold Oper.wp execOp
  simp only [ho, hx, hy, Sem.run_bind, run_index_kl k j hj, Result.andThen_ok, Sem.run_pure]
  exact hK _ _ h
end Tr
end Go.Proofs.Ytopkfmamjlkjiaa

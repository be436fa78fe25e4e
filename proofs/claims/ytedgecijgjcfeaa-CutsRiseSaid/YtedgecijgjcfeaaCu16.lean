/-
cuts: New of what may not be.
-/
import Derived.Test.YtedgecijgjcfeaaCu15
namespace Go.Proofs.Ytedgecijgjcfeaa
open Go.RowKit
set_option linter.unusedSimpArgs false
set_option linter.unusedVariables false
set_option maxRecDepth 20000 in
theorem new_bad (W : World) (own other : Int) (h : mayT own other = false) : Calls Try.prog 6 #[.int .i64 own, .int .i64 other] W fun e W' => e = .returned (.tuple #[.pointer none, .int .i64 11]) ∧ W = W' := by
  unfold mayT at h
  by_cases g1 : own < 1
  · clear h
    go_enter Try.func6, Try.ntmps6
    go_wp2_with fail
    go_ret2
    exact ⟨rfl, rfl⟩
  by_cases g2 : 12 < own
  · clear h
    go_enter Try.func6, Try.ntmps6
    go_wp2_with fail
    go_ret2
    exact ⟨rfl, rfl⟩
  by_cases g3 : other < 0
  · clear h
    go_enter Try.func6, Try.ntmps6
    go_wp2_with fail
    go_ret2
    exact ⟨rfl, rfl⟩
  by_cases g4 : 12 < other
  · clear h
    go_enter Try.func6, Try.ntmps6
    go_wp2_with fail
    go_ret2
    exact ⟨rfl, rfl⟩
  by_cases g0 : own = other
  · have g5 : (own == other) = true := by simpa using g0
    clear h g0
    go_enter Try.func6, Try.ntmps6
    go_wp2_with fail
    go_ret2
    exact ⟨rfl, rfl⟩
  · simp at h; omega
end Go.Proofs.Ytedgecijgjcfeaa

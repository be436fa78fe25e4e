/-
cuts: CutsRise, handed over.
-/
import Derived.Test.YtedgecijgjcfeaaCu27
namespace Go.Proofs.Ytedgecijgjcfeaa
open Go.RowKit Go.ChangeShapes Go.WideShapes Go.ChangeAt Go.WideElems
set_option linter.unusedSimpArgs false
set_option linter.unusedVariables false
set_option maxRecDepth 100000 in
theorem rise_lifted (os : Os) (started : os.Started) (H : Type) (enc : TypeId × Value → H) :
    ReturnsInHanded {} Try.checked os 4 .any (Rows.cutsRiseSpec.pre6 enc Try.prog Try.f4 Rows.cutsRiseRow.domain false) (Rows.cutsRiseSpec.post enc Try.prog Try.f4 false true false false) := by
  refine law_lift (C := Try.checked) Cu.own_knob started (by kernel_rfl) Try.func4 rfl Try.underlying4 Cu.laid_out (by kernel_rfl) rfl ?_
    (ChangeSpec.witness6 (enc := enc) (C := Try.checked) false ⟨#[], #[.slice none 0 0], []⟩ 8 (by kernel_rfl) (by kernel_rfl) (by kernel_rfl) (by kernel_rfl)) ?_
  · intro ds hds
    match ds, hds with
    | [_], _ => rfl
  intro W base args ds ps hval hA hlt hsz
  rw [Try.params4] at hA hval
  obtain ⟨v0, vs0, d0, ds0, p0, q0, hargs, rfl, rfl, h0, r0⟩ := trodAll_cons hA
  obtain ⟨rfl, rfl, rfl⟩ := trodAll_nil r0
  obtain rfl : args = #[v0] := by cases args; simp_all
  obtain ⟨A, c, l, rfl, hl, hc, hr, hok⟩ := open_rows Try.underlying22 15 Cu.cells_sy (by omega) Cu.Sy.cells Cu.Sy.Ok ⟨0, false, 0, fun _ => 0⟩ Cu.sy_len (hval 0 22 v0 rfl rfl) h0 (fun x hx => hlt x (by simp [hx])) (fun _ _ _ _ h hlt => Cu.open_sy h)
  exact rise_walk W A l.length c l rfl (by omega) hr

theorem rise_holds : Rows.CutsRiseSaid :=
  OpenClaim.holds_of_wide 4 Try.f4 rfl rfl rfl rfl rfl rfl rfl ⟨rfl, rfl, rfl, rfl, rfl⟩ rfl rfl rfl rfl rfl (by kernel_rfl) Try.func4 (by kernel_rfl)
    (of_decide_eq_true (by kernel_rfl)) (by unfold Func.isWrapper; first | (rw [if_pos (by decide +kernel)]; kernel_rfl) | (rw [if_neg (by decide +kernel)]; exact ⟨rfl, rfl⟩))
    (fun os started H enc _ => rise_lifted os started H enc)
end Go.Proofs.Ytedgecijgjcfeaa

/-
cuts: CutsOne, handed over.
-/
import Derived.Test.YtbnapbjmffajfaaCu45
namespace Go.Proofs.Ytbnapbjmffajfaa
open Go.RowKit Go.ChangeShapes Go.WideShapes Go.ChangeAt Go.WideElems
set_option linter.unusedSimpArgs false
set_option linter.unusedVariables false
namespace Co
open Cb
set_option maxRecDepth 100000 in
theorem one_lifted (os : Os) (started : os.Started) (H : Type) (enc : TypeId × Value → H) :
    ReturnsInHanded {} Try.checked os 3 .any (Rows.cutsOneSpec.pre6 enc Try.prog Try.f3 Rows.cutsOneRow.domain false) (Rows.cutsOneSpec.post enc Try.prog Try.f3 false true false false) := by
  refine law_lift (C := Try.checked) Cu.own_knob started (by kernel_rfl) Try.func3 rfl Try.underlying4 Cu.laid_out (by kernel_rfl) rfl ?_
    (ChangeSpec.witness6 (enc := enc) (C := Try.checked) false ⟨#[], #[.slice none 0 0], []⟩ 8 (by kernel_rfl) (by kernel_rfl) (by kernel_rfl) (by kernel_rfl)) ?_
  · intro ds hds
    match ds, hds with
    | [_], _ => rfl
  intro W base args ds ps hval hA hlt hsz
  rw [Try.params3] at hA hval
  obtain ⟨v0, vs0, d0, ds0, p0, q0, hargs, rfl, rfl, h0, r0⟩ := trodAll_cons hA
  obtain ⟨rfl, rfl, rfl⟩ := trodAll_nil r0
  obtain rfl : args = #[v0] := by cases args; simp_all
  obtain ⟨A, c, l, rfl, hl, hc, hr, hok⟩ := open_rows Try.underlying22 15 Cu.cells_sy (by omega) Cu.Sy.cells (fun x => x.Ok ∧ Flat x.f) ⟨0, false, 0, fun _ => 0⟩ Cu.sy_len (hval 0 22 v0 rfl rfl) h0 (fun x hx => hlt x (by simp [hx])) (fun _ _ _ _ h _ => open_sy2 h)
  exact one_walk W A l.length c l rfl (by omega) hr hok

theorem one_holds : Rows.CutsOneSaid :=
  OpenClaim.holds_of_wide 3 Try.f3 rfl rfl rfl rfl rfl rfl rfl ⟨rfl, rfl, rfl, rfl, rfl⟩ rfl rfl rfl rfl rfl (by kernel_rfl) Try.func3 (by kernel_rfl)
    (of_decide_eq_true (by kernel_rfl)) (by unfold Func.isWrapper; first | (rw [if_pos (by decide +kernel)]; kernel_rfl) | (rw [if_neg (by decide +kernel)]; exact ⟨rfl, rfl⟩))
    (fun os started H enc _ => one_lifted os started H enc)
end Co
end Go.Proofs.Ytbnapbjmffajfaa

/-
links: LinksApart: what is sent to one node does not touch the links to others, for whatever ops: each queue is that of links to it alone. It holds for every input, without a condition.
-/
import Derived.Test.YtifoheodcbjapaaLs17
import Derived.Test.YtifoheodcbjapaaLaw
import Derived.Test.YtifoheodcbjapaaOpenG
namespace Go.Proofs.Ytifoheodcbjapaa
open Go.RowKit Go.ChangeShapes Go.WideShapes Go.ChangeAt Go.WideElems
set_option linter.unusedSimpArgs false
set_option linter.unusedVariables false
namespace Ls
open Lk
theorem own_knob : ownKnob Try.prog.godebug = none := by kernel_rfl
theorem laid_out : laidOutB Try.prog = true := by kernel_rfl

set_option maxRecDepth 100000 in
theorem apart_lifted (os : Os) (started : os.Started) (H : Type) (enc : TypeId × Value → H) :
    ReturnsInHanded {} Try.checked os 4 .any (Rows.linksApartSpec.pre6 enc Try.prog Try.f4 Rows.linksApartRow.domain false) (Rows.linksApartSpec.post enc Try.prog Try.f4 false true false false) := by
  refine law_lift (C := Try.checked) own_knob started (by kernel_rfl) Try.func4 rfl Try.underlying4 laid_out (by kernel_rfl) rfl ?_
    (ChangeSpec.witness6 (enc := enc) (C := Try.checked) false ⟨#[], #[.slice none 0 0], []⟩ 8 (by kernel_rfl) (by kernel_rfl) (by kernel_rfl) (by kernel_rfl)) ?_
  · intro ds hds
    match ds, hds with
    | [_], _ => rfl
  intro W base args ds ps hval hA hlt hsz
  rw [Try.params4] at hA hval
  obtain ⟨v0, vs0, d0, ds0, p0, q0, hargs, rfl, rfl, h0, r0⟩ := trodAll_cons hA
  obtain ⟨rfl, rfl, rfl⟩ := trodAll_nil r0
  obtain rfl : args = #[v0] := by cases args; simp_all
  obtain ⟨A1, c1, l1, rfl, hl1, hc1, hr1, hok1⟩ := open_rows Try.underlying22 9 cells_do (by omega) Do.cells (Do.Ok W) ⟨0, 0, 0, none, 0, [], ⟨⟨false, 0, 0, 0, []⟩, none, 0⟩⟩ do_len (hval 0 22 v0 rfl rfl) h0 (fun x hx => hlt x (by simp [hx])) (fun _ _ _ _ h hlt => open_do h hlt)
  exact apart_walk W A1 l1.length c1 l1 rfl hr1 hok1

theorem apart_holds : Rows.LinksApartSaid :=
  OpenClaim.holds_of_wide 4 Try.f4 rfl rfl rfl rfl rfl rfl rfl ⟨rfl, rfl, rfl, rfl, rfl⟩ rfl rfl rfl rfl rfl (by kernel_rfl) Try.func4 (by kernel_rfl)
    (of_decide_eq_true (by kernel_rfl)) (by unfold Func.isWrapper; first | (rw [if_pos (by decide +kernel)]; kernel_rfl) | (rw [if_neg (by decide +kernel)]; exact ⟨rfl, rfl⟩))
    (fun os started H enc _ => apart_lifted os started H enc)

end Ls
end Go.Proofs.Ytifoheodcbjapaa

/-
MarkParts holds: rows put one behind the other have as many lines, pieces and free ones as both together; rows that play no part, left out, change nothing. No condition.
-/
import Derived.Test.YtlejnjgepnjceaaMkPa
namespace Go.Proofs.Ytlejnjgepnjceaa
open Go.ChangeShapes Go.WideShapes Go.ChangeAt Go.RowKit
theorem laid_out : laidOutB Try.prog = true := by kernel_rfl
theorem own_knob : ownKnob Try.prog.godebug = none := by kernel_rfl

set_option maxRecDepth 100000 in
theorem markparts_lifted (os : Os) (started : os.Started) (H : Type) (enc : TypeId × Value → H) :
    ReturnsInHanded {} Try.checked os 6 .any (Rows.markPartsSpec.pre6 enc Try.prog Try.f6 Rows.markPartsRow.domain false) (Rows.markPartsSpec.post enc Try.prog Try.f6 false true false false) := by
  refine law_lift (C := Try.checked) own_knob started (by kernel_rfl) Try.func6 rfl Try.underlying4 laid_out (by kernel_rfl) rfl ?_
    (ChangeSpec.witness6 (enc := enc) (C := Try.checked) false ⟨#[], #[.slice none 0 0, .slice none 0 0, .slice none 0 0, .slice none 0 0], []⟩ 8 (by kernel_rfl) (by kernel_rfl) (by kernel_rfl) (by kernel_rfl)) ?_
  · intro ds hds
    match ds, hds with
    | [_, _, _, _], _ => rfl
  intro W base args ds ps hval hA hlt hsz
  rw [Try.params6] at hA hval
  obtain ⟨v0, vs0, d0, ds0, p0, q0, hargs, rfl, rfl, h0, r0⟩ := trodAll_cons hA
  obtain ⟨v1, vs1, d1, ds1, p1, q1, rfl, rfl, rfl, h1, r1⟩ := trodAll_cons r0
  obtain ⟨v2, vs2, d2, ds2, p2, q2, rfl, rfl, rfl, h2, r2⟩ := trodAll_cons r1
  obtain ⟨v3, vs3, d3, ds3, p3, q3, rfl, rfl, rfl, h3, r3⟩ := trodAll_cons r2
  obtain ⟨rfl, rfl, rfl⟩ := trodAll_nil r3
  obtain rfl : args = #[v0, v1, v2, v3] := by cases args; simp_all
  obtain ⟨A1, n1, c1, q1, rfl, hq1, hn1, _, hr1⟩ := open_row Try.underlying79 Try.underlying3 cells_rone.1 (hval 0 79 v0 rfl rfl) h0 (fun x hx => hlt x (by simp [hx]))
  obtain ⟨A2, n2, c2, q2, rfl, hq2, hn2, _, hr2⟩ := open_row Try.underlying79 Try.underlying3 cells_rone.1 (hval 1 79 v1 rfl rfl) h1 (fun x hx => hlt x (by simp [hx]))
  obtain ⟨B1, m1, d1, l1, rfl, hl1, _, hlen1, hs1, hb1⟩ := open_rmarks (hval 2 61 v2 rfl rfl) h2
  obtain ⟨B2, m2, d2, l2, rfl, hl2, _, hlen2, hs2, hb2⟩ := open_rmarks (hval 3 61 v3 rfl rfl) h3
  exact parts_walk A1 A2 B1 B2 n1 n2 m1 m2 c1 c2 d1 d2 q1 q2 l1 l2 W hq1 hq2 hl1 hl2 hn1 hn2 hlen1 hlen2 hr1 hr2 hs1 hs2 (fun p hp => (hb1 p hp).2) (fun p hp => (hb2 p hp).2)

theorem markparts_holds : Rows.MarkPartsSaid :=
  OpenClaim.holds_of_wide 6 Try.f6 rfl rfl rfl rfl rfl rfl rfl ⟨rfl, rfl, rfl, rfl, rfl⟩ rfl rfl rfl rfl rfl (by kernel_rfl) Try.func6 (by kernel_rfl)
    (of_decide_eq_true (by kernel_rfl)) (by unfold Func.isWrapper; first | (rw [if_pos (by decide +kernel)]; kernel_rfl) | (rw [if_neg (by decide +kernel)]; exact ⟨rfl, rfl⟩))
    (fun os started H enc _ => markparts_lifted os started H enc)

end Go.Proofs.Ytlejnjgepnjceaa

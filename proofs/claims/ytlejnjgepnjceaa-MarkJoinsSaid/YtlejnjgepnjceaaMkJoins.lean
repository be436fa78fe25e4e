/-
MarkJoins holds: which marks may be, are equal and cover each other, the join of any many, and what the makers make, is told. No condition.
-/
import Derived.Test.YtlejnjgepnjceaaMkJo
namespace Go.Proofs.Ytlejnjgepnjceaa
open Go.ChangeShapes Go.WideShapes Go.ChangeAt Go.RowKit
theorem laid_out : laidOutB Try.prog = true := by kernel_rfl
theorem own_knob : ownKnob Try.prog.godebug = none := by kernel_rfl

set_option maxRecDepth 100000 in
theorem open_rmark {H : Type} {enc : TypeId × Value → H} {w : World} {r : Reach} {b0 base : Nat} {sp : Nat → Bool} {hd : Bool} {v : Value} {d : DataW H} {p : List MemPlace} (hv : Value.okWide Try.prog w r b0 63 v) (h : DataW.Trod enc Try.prog w base sp hd 63 v d p) :
    ∃ o : Mk, v = .agg o.rcells.toArray ∧ (-9223372036854775808 ≤ o.f ∧ o.f < 9223372036854775808) ∧ o.p < 18446744073709551616 := by
  obtain ⟨cs, rfl, _⟩ := okWide_struct Try.underlying63 hv
  obtain ⟨fuel, hf⟩ := h
  obtain ⟨l, e, hok⟩ := open_rmark_cells hf
  exact ⟨l, by rw [← e]; rfl, hok⟩
set_option maxRecDepth 100000 in
theorem markjoins_lifted (os : Os) (started : os.Started) (H : Type) (enc : TypeId × Value → H) :
    ReturnsInHanded {} Try.checked os 4 .any (Rows.markJoinsSpec.pre6 enc Try.prog Try.f4 Rows.markJoinsRow.domain false) (Rows.markJoinsSpec.post enc Try.prog Try.f4 false true false false) := by
  refine law_lift (C := Try.checked) own_knob started (by kernel_rfl) Try.func4 rfl Try.underlying4 laid_out (by kernel_rfl) rfl ?_
    (ChangeSpec.witness6 (enc := enc) (C := Try.checked) false ⟨#[], #[.slice none 0 0, .agg #[.int .i64 0, .bool false, .int .u64 0], .agg #[.int .i64 0, .bool false, .int .u64 0], .int .i64 0, .int .u64 0], []⟩ 8 (by kernel_rfl) (by kernel_rfl) (by kernel_rfl) (by kernel_rfl)) ?_
  · intro ds hds
    match ds, hds with
    | [_, _, _, _, _], _ => rfl
  intro W base args ds ps hval hA hlt hsz
  rw [Try.params4] at hA hval
  obtain ⟨v0, vs0, d0, ds0, p0, q0, hargs, rfl, rfl, h0, r0⟩ := trodAll_cons hA
  obtain ⟨v1, vs1, d1, ds1, p1, q1, rfl, rfl, rfl, h1, r1⟩ := trodAll_cons r0
  obtain ⟨v2, vs2, d2, ds2, p2, q2, rfl, rfl, rfl, h2, r2⟩ := trodAll_cons r1
  obtain ⟨v3, vs3, d3, ds3, p3, q3, rfl, rfl, rfl, h3, r3⟩ := trodAll_cons r2
  obtain ⟨v4, vs4, d4, ds4, p4, q4, rfl, rfl, rfl, h4, r4⟩ := trodAll_cons r3
  obtain ⟨rfl, rfl, rfl⟩ := trodAll_nil r4
  obtain rfl : args = #[v0, v1, v2, v3, v4] := by cases args; simp_all
  obtain ⟨A, n, c, l, rfl, hl, _, hlen, hr, hb⟩ := open_rmarks (hval 0 61 v0 rfl rfl) h0
  obtain ⟨a, rfl, _, ha⟩ := open_rmark (hval 1 63 v1 rfl rfl) h1
  obtain ⟨b, rfl, _, hb2⟩ := open_rmark (hval 2 63 v2 rfl rfl) h2
  obtain ⟨x, rfl, _, _, hx⟩ := open_int Try.underlying3 (hval 3 3 v3 rfl rfl) h3
  obtain ⟨y, rfl, _, _, hy⟩ := open_int Try.underlying22 (hval 4 22 v4 rfl rfl) h4
  have by' := bounds_u64 hy
  obtain ⟨pr, rfl⟩ : ∃ pr : Nat, y = pr := ⟨y.toNat, by omega⟩
  exact joins_walk A n c l a b x pr W hl hlen (by have := bounds_i64 hx; omega) hr (fun p hp => (hb p hp).2) ha hb2 (by omega)

theorem markjoins_holds : Rows.MarkJoinsSaid :=
  OpenClaim.holds_of_wide 4 Try.f4 rfl rfl rfl rfl rfl rfl rfl ⟨rfl, rfl, rfl, rfl, rfl⟩ rfl rfl rfl rfl rfl (by kernel_rfl) Try.func4 (by kernel_rfl)
    (of_decide_eq_true (by kernel_rfl)) (by unfold Func.isWrapper; first | (rw [if_pos (by decide +kernel)]; kernel_rfl) | (rw [if_neg (by decide +kernel)]; exact ⟨rfl, rfl⟩))
    (fun os started H enc _ => markjoins_lifted os started H enc)

end Go.Proofs.Ytlejnjgepnjceaa

/-
interest: the fixed test of each law.
-/
import Derived.Test.YtopkfmamjlkjiaaTi2
namespace Go.Proofs.Ytopkfmamjlkjiaa
open Go.RowKit
set_option linter.unusedSimpArgs false
set_option linter.unusedVariables false
namespace Tr
section
variable (W : World) (g : Nat) (hr : RowsOf ec 2 W (t0 g).A (t0 g).es)
include hr
theorem t0_toward_any : Calls Try.prog 29 #[.agg (t0 g).cells.toArray, .int .i64 3, .int .i64 2, .int .i64 1] W fun e W' => ∃ v, e = .returned v ∧ Nds W' W.heap.size v [1] ∧ Below W.heap.size W W' :=
  (toward_any W (t0 g) hr (by decide : (2 : Nat) ≤ 1000000) 3 2 1 (by decide)).mono (by
    rintro e w' ⟨v, l, rfl, hN, hT, hb⟩
    rw [t0_toward g hT] at hN
    exact ⟨v, rfl, hN, hb⟩)
theorem t0_reach2_any : Calls Try.prog 27 #[.agg (t0 g).cells.toArray, .int .i64 2, .int .i64 1] W fun e W' => ∃ v, e = .returned v ∧ Nds W' W.heap.size v [3, 1] ∧ Below W.heap.size W W' :=
  (ireach_any W (t0 g) hr (by decide : (2 : Nat) ≤ 1000000) 2 1 (by decide)).mono (by
    rintro e w' ⟨v, l, rfl, hN, hT, hb⟩
    rcases hT with ⟨h, -⟩ | ⟨-, h⟩
    · exact absurd (right_uniq h (t0_right g)) (by decide)
    · rw [t0_reach2 g h] at hN
      exact ⟨v, rfl, hN, hb⟩)
theorem t0_reach1_any : Calls Try.prog 27 #[.agg (t0 g).cells.toArray, .int .i64 1, .int .i64 1] W fun e W' => ∃ v, e = .returned v ∧ Nds W' W.heap.size v [] ∧ Below W.heap.size W W' :=
  (ireach_any W (t0 g) hr (by decide : (2 : Nat) ≤ 1000000) 1 1 (by decide)).mono (by
    rintro e w' ⟨v, l, rfl, hN, hT, hb⟩
    rcases hT with ⟨h, -⟩ | ⟨-, h⟩
    · exact absurd (right_uniq h (t0_right g)) (by decide)
    · rw [t0_reach1 g h] at hN
      exact ⟨v, rfl, hN, hb⟩)
theorem t0_wants_any : Calls Try.prog 30 #[.agg (t0 g).cells.toArray, .int .i64 2, .int .i64 3, .int .i64 1] W fun e W' => e = .returned (.bool true) ∧ Below W.heap.size W W' :=
  (wants_any W (t0 g) hr (by decide : (2 : Nat) ≤ 1000000) 2 3 1 (by decide)).mono (by
    rintro e w' ⟨b, rfl, hb, hbl⟩
    rw [hb.2 (t0_wants g)]
    exact ⟨rfl, hbl⟩)
theorem t0_not_any : Calls Try.prog 30 #[.agg (t0 g).cells.toArray, .int .i64 3, .int .i64 2, .int .i64 1] W fun e W' => e = .returned (.bool false) ∧ Below W.heap.size W W' :=
  (wants_any W (t0 g) hr (by decide : (2 : Nat) ≤ 1000000) 3 2 1 (by decide)).mono (by
    rintro e w' ⟨b, rfl, hb, hbl⟩
    cases b with
    | true => exact absurd (hb.1 rfl) (t0_not g)
    | false => exact ⟨rfl, hbl⟩)
end
set_option maxRecDepth 20000 in
set_option maxHeartbeats 8000000 in
theorem alive19_any (W : World) : Calls Try.prog 26 #[] W fun e W' => e = .returned (.bool true) ∧ Below W.heap.size W W' := by
  have HSM := Lib.hid (small_any W)
  go_enter Try.func26, Try.ntmps26
  go_upto_region 2 with (first | (go_at_call 44; refine HSM.out.mono ?_; rintro e w1 ⟨g, rfl, hro, hb⟩; have HR1 := Lib.hid hro; have HB1 := Lib.hid hb; clear hro hb HSM) | (refine wpList_store_blk rfl 25 _ _ rfl w1.heap.size 25 _ (t0 g).cells.toArray rfl rfl (Blk.new' rfl) (tvinfoA (t0 g)) (by rw [t0_cells]; rfl) (by rw [t0_cells]; simp [Value.oneCell']) ?_; intro _; rw [Wr.alloc_setRow]))
  obtain ⟨w2, hw2⟩ : ∃ w2, w2 = w1.alloc (.cells (t0 g).cells.toArray 25) := ⟨_, rfl⟩
  have hb2 : Below w1.heap.size w1 w2 := by rw [hw2]; exact (Below.refl _ _).alloc (Nat.le_refl _) _
  have hx2 : Blk w2 w1.heap.size 25 (t0 g).cells.toArray := by rw [hw2]; exact Blk.new _ _ _
  rw [← hw2]
  clear hw2
  obtain ⟨gb, hgb⟩ : ∃ gb, gb = w1.heap.size := ⟨_, rfl⟩
  rw [← hgb] at hx2
  (try rw [← hgb])
  clear hgb
  have HX2 := Lib.hid hx2
  have HR2 := Lib.hid (HR1.out.next hb2)
  have HB2 := Lib.hid (HB1.out.trans (hb2.mono HB1.out.size))
  clear hx2 hb2 HR1 HB1
  have hcc : w2.rangeAt gb 0 (t0 g).cells := HX2.out.range
  have HTW := Lib.hid (t0_toward_any w2.drew g (HR2.out.next (Below.refl _ _).drew))
  refine wp_region_tree (S := (fun w' => w'.rangeAt gb 0 (t0 g).cells)) (.take 0 (.take 2 (.one 1 (.one 3 (.take 4 (.take 5 .nil)))))) 9999 (by kernel_rfl) (by kernel_rfl) (by kernel_rfl) (by kernel_rfl) (by kernel_rfl) (fun _ _ d _ _ h => by cases d <;> exact h) hcc (fun hHeld => ?_); simp only [Tree.map, List.getElem?_toArray, List.getElem?_cons_zero, List.getElem?_cons_succ]
  (repeat (first | (refine wpTree.take (v := undef) (Or.inr ⟨by rfl, rfl⟩) ?_; simp only [Act.put, List.setIfInBounds_toArray, List.set_cons_zero, List.set_cons_succ]) | (refine wpTree.take (v := .agg (t0 g).cells.toArray) (yieldsIf_load_mid rfl 25 _ rfl _ _ rfl (t0 g).cells _ (fun _ hS => hS) Try.underlying25 rfl (tvinfo (t0 g))) ?_; simp only [Act.put, List.setIfInBounds_toArray, List.set_cons_zero, List.set_cons_succ]) | (refine wpTree.take (v := ?_) (Or.inl ⟨by rfl, ?_⟩) ?_; rotate_left; (focus (intro _ hS; (try dsimp only at hS); go_split_ands; (try subst hS); go_simp; (try (with_reducible rfl)); done)); simp only [Act.put, List.setIfInBounds_toArray, List.set_cons_zero, List.set_cons_succ])))
  clear hcc
  refine wpTree.one (fun K hK => ?_)
  go_simp
  go_at_call 29
  refine HTW.out.mono ?_
  rintro e w3 ⟨va, rfl, hNa, hb⟩
  have hb3 : Below w2.heap.size w2 w3 := (Below.refl w2.heap.size w2).drew.trans hb
  have HB3 := Lib.hid hb3
  have HNA := Lib.hid hNa
  have HRC := Lib.hid (t0_reach2_any w3 g (HR2.out.next hb3))
  refine hK.out _ _ (rng_next HX2.out.range hb3) (fun _ => ?_)
  clear hK K hHeld hb3 hNa hb HTW
  (try simp only [Act.put, List.setIfInBounds_toArray, List.set_cons_zero, List.set_cons_succ])
  refine wpTree.one (fun K hK => ?_)
  go_simp
  go_at_call 27
  refine HRC.out.mono ?_
  rintro e w4 ⟨vb, rfl, hNb, hb⟩
  have hb4 : Below w2.heap.size w2 w4 := HB3.out.trans (hb.mono HB3.out.size)
  have HB4 := Lib.hid hb4
  have HNB := Lib.hid hNb
  have HNA4 := Lib.hid (HNA.out.next hb)
  refine hK.out _ _ (rng_next HX2.out.range hb4) (fun _ => ?_)
  clear hK K hb4 hNb hb HRC HNA
  (try simp only [Act.put, List.setIfInBounds_toArray, List.set_cons_zero, List.set_cons_succ])
  (repeat (first | (refine wpTree.take (v := undef) (Or.inr ⟨by rfl, rfl⟩) ?_; simp only [Act.put, List.setIfInBounds_toArray, List.set_cons_zero, List.set_cons_succ]) | (refine wpTree.take (v := ?_) (Or.inl ⟨by rfl, ?_⟩) ?_; rotate_left; (focus (intro _ hS; (try dsimp only at hS); go_split_ands; (try subst hS); go_simp; (try (with_reducible rfl)); done)); simp only [Act.put, List.setIfInBounds_toArray, List.set_cons_zero, List.set_cons_succ])))
  refine wpTree.done ?_
  obtain ⟨qa, oa, ca, eva, -, cc1⟩ := HNA4.out.at_ (i := 0) (n := 1) rfl
  obtain ⟨qb, ob, cb, evb, -, cc2⟩ := HNB.out.at_ (i := 0) (n := 3) rfl
  obtain ⟨qb', ob', cb', evb', -, cc3⟩ := HNB.out.at_ (i := 1) (n := 1) rfl
  rw [evb] at evb'
  simp only [Value.slice.injEq, Option.some.injEq, Addr.mk.injEq, and_true, true_and] at evb'
  obtain ⟨⟨rfl, rfl⟩, rfl⟩ := evb'
  subst eva
  subst evb
  have HX4 := Lib.hid (HX2.out.next HB4.out)
  have HR4 := Lib.hid (HR2.out.next HB4.out)
  have hr0 : w4.rangeAt gb 0 (t0 g).cells := HX4.out.range
  have HW1 := Lib.hid (t0_wants_any w4 g HR4.out)
  have HBW := Lib.hid (HB2.out.trans (HB4.out.mono HB2.out.size))
  clear HX2 HR2 HB2 HB3 HB4 HNA4 HNB
  have d1 : w4.cell? ⟨qa, oa, none⟩ = some (.int .i64 1) := cc1
  have d2 : w4.cell? ⟨qb, ob, none⟩ = some (.int .i64 3) := cc2
  have d3 : w4.cell? ⟨qb, ob + 1, none⟩ = some (.int .i64 1) := cc3
  clear cc1 cc2 cc3
  go_wp2_with (first | (refine load_midg rfl 25 _ rfl _ _ rfl (t0 g).cells _ hr0 Try.underlying25 rfl (tvinfo (t0 g)) ?_; (try simp only [Act.put, List.setIfInBounds_toArray, List.set_cons_zero, List.set_cons_succ])) | (go_at_call 30; first | (refine HW1.out.mono ?_; rintro e w5 ⟨rfl, hb⟩; have HX5 := Lib.hid (HX4.out.next hb); have HR5 := Lib.hid (HR4.out.next hb); have hr0 := HX5.out.range; have HB5 := Lib.hid (HBW.out.trans (hb.mono HBW.out.size)); have HW2 := Lib.hid (t0_not_any w5 g HR5.out); clear hb HW1) | (refine HW2.out.mono ?_; rintro e w6 ⟨rfl, hb⟩; have HX6 := Lib.hid (HX5.out.next hb); have HR6 := Lib.hid (HR5.out.next hb); have hr0 := HX6.out.range; have HB6 := Lib.hid (HB5.out.trans (hb.mono HB5.out.size)); have HW3 := Lib.hid (t0_reach1_any w6 g HR6.out); clear hb HW2)) | (go_at_call 27; refine HW3.out.mono ?_; rintro e w7 ⟨vc, rfl, hN, hb⟩; have HB7 := Lib.hid (HB6.out.trans (hb.mono HB6.out.size)); obtain ⟨Ac, cc, evc⟩ := hN.shape; subst evc; clear hb hN HW3))
  go_ret
  exact ⟨rfl, HB7.out⟩
end Tr
end Go.Proofs.Ytopkfmamjlkjiaa

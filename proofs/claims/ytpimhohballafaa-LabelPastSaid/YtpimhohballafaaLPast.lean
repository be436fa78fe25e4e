/-
LabelPast holds: a label's past is its Deps and one more; nothing that it depends on depends on it, if that may be, too, and its past is covered. No condition.
-/
import Derived.Test.YtpimhohballafaaLOpen
namespace Go.Proofs.Ytpimhohballafaa
open Go.ChangeShapes Go.WideShapes Go.ChangeAt Go.RowKit

set_option maxRecDepth 20000 in
set_option maxHeartbeats 8000000 in
theorem labelpast_walk (a b : Lab) (ha : a.Ok) (W : World) :
    Calls Try.prog 5 #[.agg a.cells.toArray, .agg b.cells.toArray] W fun e W' => e = .returned (.bool true) ∧ Below W.heap.size W W' := by
  have bA := Blk.new W 27 a.cells.toArray
  have bB := Blk.new (W.alloc (.cells a.cells.toArray 27)) 27 b.cells.toArray
  have bA' := bA.alloc (.cells b.cells.toArray 27)
  have hsz : (W.alloc (.cells a.cells.toArray 27)).heap.size = W.heap.size + 1 := by simp
  rw [hsz] at bB
  have hB0 := Lib.hid ((((Below.refl W.heap.size W).alloc (Nat.le_refl _) (.cells a.cells.toArray 27)).alloc (by rw [hsz]; omega) (.cells b.cells.toArray 27)))
  have hLA := lab_all bA'
  have hLB := lab_all bB
  obtain ⟨ra, va, a0, a1, a2, a3, a4⟩ := hLA
  obtain ⟨rb, vb, b0, b1, b2, b3, b4⟩ := hLB
  have HA := Lib.hid bA'
  have HB := Lib.hid bB
  have hra := lright_any a
  have hrb := lright_any b
  clear bA bB bA' va vb a0 a1 a2 a3 a4 b0 b1 b2 b3 b4
  cases hR : rightL a with
  | false =>
    rw [hR] at hra
    have HC := Lib.hid hra
    clear hra hrb rb
    go_enter Try.func5, Try.ntmps5
    go_wp2_with (first | (refine wpList_load_mid rfl 27 _ rfl _ _ rfl (Lab.cells ?_) _ ?_ Try.underlying27 rfl (linfo _) ?_; rotate_left; (focus assumption)) | (go_at_call 13; refine (HC.out _).mono ?_; rintro e W1 ⟨rfl, hb⟩; have HB1 := Lib.hid (hB0.out.trans (hb.mono hB0.out.size)); clear hb) | (go_at_call 9; refine (alive5_any _).mono ?_; rintro e W2 ⟨rfl, hb⟩; have HB2 := Lib.hid (HB1.out.trans (hb.mono HB1.out.size)); clear hb))
    go_ret
    exact ⟨rfl, HB2.out⟩
  | true =>
    cases hS : rightL b with
    | false =>
      rw [hR] at hra
      rw [hS] at hrb
      have HC := Lib.hid hra
      have HD := Lib.hid hrb
      clear hra hrb rb
      go_enter Try.func5, Try.ntmps5
      go_wp2_with (refine wpList_load_mid rfl 27 _ rfl _ _ rfl (Lab.cells ?_) _ ?_ Try.underlying27 rfl (linfo _) ?_; rotate_left; (focus assumption))
      refine (HC.out _).mono ?_
      rintro e W1 ⟨rfl, hb⟩
      have HB1 := Lib.hid (hB0.out.trans (hb.mono hB0.out.size))
      have rb1 := (HB.out.next hb).range
      clear hb ra HC
      go_wp2_with (first | (refine wpList_load_mid rfl 27 _ rfl _ _ rfl (Lab.cells ?_) _ ?_ Try.underlying27 rfl (linfo _) ?_; rotate_left; (focus assumption)) | (refine wpList_load_midg (by rfl) 27 _ rfl _ _ rfl (Lab.cells ?_) _ ?_ Try.underlying27 rfl (linfo _) ?_; rotate_left; (focus assumption)) | (go_at_call 13; refine (HD.out _).mono ?_; rintro e W3 ⟨rfl, hb⟩; have HB3 := Lib.hid (HB1.out.trans (hb.mono HB1.out.size)); clear hb) | (go_at_call 9; refine (alive5_any _).mono ?_; rintro e W2 ⟨rfl, hb⟩; have HB2 := Lib.hid (HB3.out.trans (hb.mono HB3.out.size)); clear hb))
      go_ret
      exact ⟨rfl, HB2.out⟩
    | true =>
      rw [hR] at hra
      rw [hS] at hrb
      have HC := Lib.hid hra
      have HD := Lib.hid hrb
      have ho := past_order hR
      have hsm := past_sum hR
      have hpl := past_lt hR ha.f
      have HCL := Lib.hid (past_closed hR hS)
      have HP := Lib.hid (past_any a)
      have hp0 : pastF a = withF a.f a.nd a.n := rfl
      obtain ⟨p, hp⟩ : ∃ p, p = pastF a := ⟨_, rfl⟩
      have hsk := sumK_le ha.f 12
      obtain ⟨s, hs⟩ : ∃ s, s = sumK a.f 12 := ⟨_, rfl⟩
      rw [← hp] at ho hsm hpl HCL HP hp0
      rw [← hs] at hsm hsk
      have HO := Lib.hid (order_any p a.f)
      rw [ho] at HO
      have HN1 := Lib.hid (fun W => count_any p W hpl)
      rw [hsm] at HN1
      have HN2 := Lib.hid (fun W => count_any a.f W ha.f)
      rw [← hs] at HN2
      have hwr : IntKind.u64.wrap ((s : Int) + 1) = (s : Int) + 1 := by rw [IntKind.wrap_u64]; omega
      have HWR := Lib.hid hwr
      clear hra hrb rb hwr hs hsk hp hsm hpl ho ha hR hS hp0
      go_enter Try.func5, Try.ntmps5
      go_wp2_with (refine wpList_load_mid rfl 27 _ rfl _ _ rfl (Lab.cells ?_) _ ?_ Try.underlying27 rfl (linfo _) ?_; rotate_left; (focus assumption))
      refine (HC.out _).mono ?_
      rintro e W1 ⟨rfl, hb⟩
      have HB1 := Lib.hid (hB0.out.trans (hb.mono hB0.out.size))
      have HA1 := Lib.hid (HA.out.next hb)
      have HBB1 := Lib.hid (HB.out.next hb)
      have rb1 := HBB1.out.range
      clear hb ra HC HA HB hB0
      go_wp2_with (first | (refine wpList_load_mid rfl 27 _ rfl _ _ rfl (Lab.cells ?_) _ ?_ Try.underlying27 rfl (linfo _) ?_; rotate_left; (focus assumption)) | (refine wpList_load_midg (by rfl) 27 _ rfl _ _ rfl (Lab.cells ?_) _ ?_ Try.underlying27 rfl (linfo _) ?_; rotate_left; (focus assumption)))
      refine (HD.out _).mono ?_
      rintro e W2 ⟨rfl, hb⟩
      have HB2 := Lib.hid (HB1.out.trans (hb.mono HB1.out.size))
      have HA2 := Lib.hid (HA1.out.next hb)
      have HBB2 := Lib.hid (HBB1.out.next hb)
      have ra2 := HA2.out.range
      clear hb rb1 HD HA1 HBB1 HB1
      go_wp2_with (first | (refine wpList_load_mid rfl 27 _ rfl _ _ rfl (Lab.cells ?_) _ ?_ Try.underlying27 rfl (linfo _) ?_; rotate_left; (focus assumption)))
      refine (HP.out _).mono ?_
      rintro e W3 ⟨rfl, hb⟩
      have HB3 := Lib.hid (HB2.out.trans (hb.mono HB2.out.size))
      have HA3 := Lib.hid (HA2.out.next hb)
      have HBB3 := Lib.hid (HBB2.out.next hb)
      clear hb ra2 HP HA2 HBB2 HB2
      go_wp2_with (first | (refine wpList_store_blk rfl 25 _ _ rfl _ 25 ?_ (vl _).toArray rfl rfl ?_ (vinfo _) ?_ (vl_all _) ?_; rotate_left; (focus ((first | assumption | ((repeat' (first | assumption | ((with_reducible refine Blk.new' ?_); (first | rfl | (simp; done))) | ((with_reducible refine Blk.newRow ?_); (first | rfl | (simp; done))) | ((with_reducible refine Blk.farRow ?_ ?_ _); rotate_left; (first | (simp; done) | (simp; omega) | omega)) | (with_reducible refine Blk.alloc ?_ _) | (with_reducible refine Blk.drew ?_) | ((with_reducible refine Blk.far ?_ ?_ _); rotate_left; (first | (simp; done) | (simp; omega) | omega)) | (with_reducible refine Blk.next' (by assumption) ?_))); done)))); (focus (first | exact (vl_size _).trans (vl_size _).symm | exact (vl_size _).symm)); intro _hrow))
      have hbn : Below (W3).heap.size W3 (((W3).alloc (.cells #[.int .u32 0, .int .u32 0, .int .u32 0, .int .u32 0, .int .u32 0, .int .u32 0, .int .u32 0, .int .u32 0, .int .u32 0, .int .u32 0, .int .u32 0, .int .u32 0] 25)).setRow (W3).heap.size (vl p).toArray) := below_setRow ((Below.refl _ _).alloc (Nat.le_refl _) _) (Nat.le_refl _) _
      obtain ⟨W4, hnw⟩ : ∃ W4, W4 = (((W3).alloc (.cells #[.int .u32 0, .int .u32 0, .int .u32 0, .int .u32 0, .int .u32 0, .int .u32 0, .int .u32 0, .int .u32 0, .int .u32 0, .int .u32 0, .int .u32 0, .int .u32 0] 25)).setRow (W3).heap.size (vl p).toArray) := ⟨_, rfl⟩
      rw [← hnw] at hbn _hrow ⊢
      clear hnw
      have HB4 := Lib.hid (HB3.out.trans (hbn.mono HB3.out.size))
      have HA4 := Lib.hid (HA3.out.next hbn)
      have HBB4 := Lib.hid (HBB3.out.next hbn)
      have HV4 := Lib.hid _hrow
      have va4 := (lab_all HA4.out).2.1
      have vp4 := HV4.out.range
      have hwr := HWR.out
      clear hbn _hrow HB3 HA3 HBB3 HWR
      refine wp_region_tree (S := (fun W' => Below (W4).heap.size W4 W')) (.take 0 (.take 2 (.take 3 (.one 1 (.one 4 (.take 5 (.take 6 (.take 7 (.take 8 (.take 9 (.take 10 (.one 11 (.take 12 (.take 13 .nil)))))))))))))) 9999 (by kernel_rfl) (by kernel_rfl) (by kernel_rfl) (by kernel_rfl) (by kernel_rfl) (fun _ _ d _ _ h => by cases d <;> exact h) ?_ (fun hHeld => ?_); (focus (exact (Below.refl _ _).drew)); simp only [Tree.map, List.getElem?_toArray, List.getElem?_cons_zero, List.getElem?_cons_succ]
      (repeat (first | (refine wpTree.take (v := undef) (Or.inr ⟨by rfl, rfl⟩) ?_; simp only [Act.put, List.setIfInBounds_toArray, List.set_cons_zero, List.set_cons_succ]) | (refine wpTree.take (v := .agg (vl ?_).toArray) (yieldsIf_load_mid rfl 25 _ rfl _ _ rfl (vl _) _ ?_ Try.underlying25 rfl (vinfoL _)) ?_; rotate_left; (focus (intro _ hS; refine range_next hS ?_; assumption)); simp only [Act.put, List.setIfInBounds_toArray, List.set_cons_zero, List.set_cons_succ]) | (refine wpTree.take (v := .agg (Lab.cells ?_).toArray) (yieldsIf_load_mid rfl 27 _ rfl _ _ rfl (Lab.cells _) _ ?_ Try.underlying27 rfl (linfo _)) ?_; rotate_left; (focus (intro _ hS; refine range_next hS ?_; assumption)); simp only [Act.put, List.setIfInBounds_toArray, List.set_cons_zero, List.set_cons_succ]) | (refine wpTree.take (v := ?_) (Or.inl ⟨by rfl, ?_⟩) ?_; rotate_left; (focus (intro _ hS; (try dsimp only at hS); go_split_ands; (try subst hS); go_simp; (try (with_reducible rfl)); done)); simp only [Act.put, List.setIfInBounds_toArray, List.set_cons_zero, List.set_cons_succ])))
      refine wpTree.one (fun K hK => ?_)
      go_simp
      go_at_call 19
      refine (HN1.out _).mono ?_
      rintro e W5 ⟨rfl, hbW5⟩
      have hBelow := Below.trans hHeld (hbW5.mono (Below.size hHeld))
      refine hK.out _ _ hBelow (fun hHeld' => ?_)
      clear hK K hHeld hbW5 hBelow
      have hHeld := hHeld'
      clear hHeld'
      (repeat (first | (refine wpTree.take (v := undef) (Or.inr ⟨by rfl, rfl⟩) ?_; simp only [Act.put, List.setIfInBounds_toArray, List.set_cons_zero, List.set_cons_succ]) | (refine wpTree.take (v := .agg (vl ?_).toArray) (yieldsIf_load_mid rfl 25 _ rfl _ _ rfl (vl _) _ ?_ Try.underlying25 rfl (vinfoL _)) ?_; rotate_left; (focus (intro _ hS; refine range_next hS ?_; assumption)); simp only [Act.put, List.setIfInBounds_toArray, List.set_cons_zero, List.set_cons_succ]) | (refine wpTree.take (v := .agg (Lab.cells ?_).toArray) (yieldsIf_load_mid rfl 27 _ rfl _ _ rfl (Lab.cells _) _ ?_ Try.underlying27 rfl (linfo _)) ?_; rotate_left; (focus (intro _ hS; refine range_next hS ?_; assumption)); simp only [Act.put, List.setIfInBounds_toArray, List.set_cons_zero, List.set_cons_succ]) | (refine wpTree.take (v := ?_) (Or.inl ⟨by rfl, ?_⟩) ?_; rotate_left; (focus (intro _ hS; (try dsimp only at hS); go_split_ands; (try subst hS); go_simp; (try (with_reducible rfl)); done)); simp only [Act.put, List.setIfInBounds_toArray, List.set_cons_zero, List.set_cons_succ])))
      refine wpTree.one (fun K hK => ?_)
      go_simp
      go_at_call 19
      refine (HN2.out _).mono ?_
      rintro e W6 ⟨rfl, hbW6⟩
      have hBelow := Below.trans hHeld (hbW6.mono (Below.size hHeld))
      refine hK.out _ _ hBelow (fun hHeld' => ?_)
      clear hK K hHeld hbW6 hBelow
      have hHeld := hHeld'
      clear hHeld'
      (repeat (first | (refine wpTree.take (v := undef) (Or.inr ⟨by rfl, rfl⟩) ?_; simp only [Act.put, List.setIfInBounds_toArray, List.set_cons_zero, List.set_cons_succ]) | (refine wpTree.take (v := .agg (vl ?_).toArray) (yieldsIf_load_mid rfl 25 _ rfl _ _ rfl (vl _) _ ?_ Try.underlying25 rfl (vinfoL _)) ?_; rotate_left; (focus (intro _ hS; refine range_next hS ?_; assumption)); simp only [Act.put, List.setIfInBounds_toArray, List.set_cons_zero, List.set_cons_succ]) | (refine wpTree.take (v := .agg (Lab.cells ?_).toArray) (yieldsIf_load_mid rfl 27 _ rfl _ _ rfl (Lab.cells _) _ ?_ Try.underlying27 rfl (linfo _)) ?_; rotate_left; (focus (intro _ hS; refine range_next hS ?_; assumption)); simp only [Act.put, List.setIfInBounds_toArray, List.set_cons_zero, List.set_cons_succ]) | (refine wpTree.take (v := ?_) (Or.inl ⟨by rfl, ?_⟩) ?_; rotate_left; (focus (intro _ hS; (try dsimp only at hS); go_split_ands; (try subst hS); go_simp; (try (with_reducible rfl)); done)); simp only [Act.put, List.setIfInBounds_toArray, List.set_cons_zero, List.set_cons_succ])))
      refine wpTree.one (fun K hK => ?_)
      go_simp
      go_at_call 20
      refine (HO.out _).mono ?_
      rintro e W7 ⟨rfl, hbW7⟩
      have hBelow := Below.trans hHeld (hbW7.mono (Below.size hHeld))
      refine hK.out _ _ hBelow (fun hHeld' => ?_)
      clear hK K hHeld hbW7 hBelow
      have hHeld := hHeld'
      clear hHeld'
      (repeat (first | (refine wpTree.take (v := undef) (Or.inr ⟨by rfl, rfl⟩) ?_; simp only [Act.put, List.setIfInBounds_toArray, List.set_cons_zero, List.set_cons_succ]) | (refine wpTree.take (v := .agg (vl ?_).toArray) (yieldsIf_load_mid rfl 25 _ rfl _ _ rfl (vl _) _ ?_ Try.underlying25 rfl (vinfoL _)) ?_; rotate_left; (focus (intro _ hS; refine range_next hS ?_; assumption)); simp only [Act.put, List.setIfInBounds_toArray, List.set_cons_zero, List.set_cons_succ]) | (refine wpTree.take (v := .agg (Lab.cells ?_).toArray) (yieldsIf_load_mid rfl 27 _ rfl _ _ rfl (Lab.cells _) _ ?_ Try.underlying27 rfl (linfo _)) ?_; rotate_left; (focus (intro _ hS; refine range_next hS ?_; assumption)); simp only [Act.put, List.setIfInBounds_toArray, List.set_cons_zero, List.set_cons_succ]) | (refine wpTree.take (v := ?_) (Or.inl ⟨by rfl, ?_⟩) ?_; rotate_left; (focus (intro _ hS; (try dsimp only at hS); go_split_ands; (try subst hS); go_simp; (try (with_reducible rfl)); done)); simp only [Act.put, List.setIfInBounds_toArray, List.set_cons_zero, List.set_cons_succ])))
      refine wpTree.done ?_
      have HB7 := Lib.hid (HB4.out.trans (hHeld.mono HB4.out.size))
      have HA7 := Lib.hid (HA4.out.next hHeld)
      have HBB7 := Lib.hid (HBB4.out.next hHeld)
      have vb7 := (lab_all HBB7.out).2.1
      have vp7 := (HV4.out.next hHeld).range
      clear hHeld va4 vp4 hwr HB4 HA4 HBB4 HV4 HO HN1 HN2
      go_wp2_with (refine wpList_load_mid rfl 25 _ rfl _ _ rfl (vl ?_) _ ?_ Try.underlying25 rfl (vinfoL _) ?_; rotate_left; (focus assumption))
      refine (covers_any b.f p W7).mono ?_
      rintro e W8 ⟨rfl, hb⟩
      have HB8 := Lib.hid (HB7.out.trans (hb.mono HB7.out.size))
      have HA8 := Lib.hid (HA7.out.next hb)
      have HBB8 := Lib.hid (HBB7.out.next hb)
      clear hb HB7 HA7 HBB7 vb7 vp7
      go_wp2_with fail
      refine (alive5_any W8).mono ?_
      rintro e W9 ⟨rfl, hb⟩
      have HB9 := Lib.hid (HB8.out.trans (hb.mono HB8.out.size))
      have HA9 := Lib.hid (HA8.out.next hb)
      have HBB9 := Lib.hid (HBB8.out.next hb)
      clear hb HB8 HA8 HBB8
      cases hcv : covB b.f p with
      | false =>
        go_wp2_with fail
        go_ret
        exact ⟨rfl, HB9.out⟩
      | true =>
        have c3 := (lab_all HA9.out).2.2.2.2.2.1
        have d3 := (lab_all HBB9.out).2.2.2.2.2.1
        by_cases hca : a.ca = b.ca
        · obtain ⟨f1, f2⟩ := HCL.out hcv hca
          have HF1 := Lib.hid (before_any a b)
          have HF2 := Lib.hid (before_any b a)
          rw [f1] at HF1
          rw [f2] at HF2
          have hne : (a.ca != b.ca) = false := by simp [hca]
          have ra9 := HA9.out.range
          have rb9 := HBB9.out.range
          clear f1 f2 hca hcv HCL
          go_wp2_with (first | (refine wpList_load_midg (by rfl) 27 _ rfl _ _ rfl (Lab.cells ?_) _ ?_ Try.underlying27 rfl (linfo _) ?_; rotate_left; (focus assumption)))
          refine (HF1.out W9).mono ?_
          rintro e W10 ⟨rfl, hb⟩
          have HB10 := Lib.hid (HB9.out.trans (hb.mono HB9.out.size))
          have ra10 := (HA9.out.next hb).range
          have rb10 := (HBB9.out.next hb).range
          clear hb HB9 HA9 HBB9 ra9 rb9 c3 d3
          go_wp2_with (first | (refine wpList_load_midg (by rfl) 27 _ rfl _ _ rfl (Lab.cells ?_) _ ?_ Try.underlying27 rfl (linfo _) ?_; rotate_left; (focus assumption)))
          refine (HF2.out W10).mono ?_
          rintro e W11 ⟨rfl, hb⟩
          have HB11 := Lib.hid (HB10.out.trans (hb.mono HB10.out.size))
          clear hb HB10 ra10 rb10
          go_wp2_with fail
          go_ret
          exact ⟨rfl, HB11.out⟩
        · have hne : (a.ca != b.ca) = true := by simpa using hca
          clear hca hcv HCL
          go_wp2_with fail
          go_ret
          exact ⟨rfl, HB9.out⟩

set_option maxRecDepth 100000 in
theorem labelpast_lifted (os : Os) (started : os.Started) (H : Type) (enc : TypeId × Value → H) :
    ReturnsInHanded {} Try.checked os 5 .any (Rows.labelPastSpec.pre6 enc Try.prog Try.f5 Rows.labelPastRow.domain false) (Rows.labelPastSpec.post enc Try.prog Try.f5 false true false false) := by
  refine law_lift (C := Try.checked) own_knob started (by kernel_rfl) Try.func5 rfl Try.underlying4 laid_out (by kernel_rfl) rfl ?_
    (ChangeSpec.witness6 (enc := enc) (C := Try.checked) false ⟨#[], #[.agg #[.int .u64 0, .int .i64 0, .int .u32 0, .int .i64 0, .int .i64 0, .int .u32 0, .int .u32 0, .int .u32 0, .int .u32 0, .int .u32 0, .int .u32 0, .int .u32 0, .int .u32 0, .int .u32 0, .int .u32 0, .int .u32 0, .int .u32 0], .agg #[.int .u64 0, .int .i64 0, .int .u32 0, .int .i64 0, .int .i64 0, .int .u32 0, .int .u32 0, .int .u32 0, .int .u32 0, .int .u32 0, .int .u32 0, .int .u32 0, .int .u32 0, .int .u32 0, .int .u32 0, .int .u32 0, .int .u32 0]], []⟩ 8 (by kernel_rfl) (by kernel_rfl) (by kernel_rfl) (by kernel_rfl)) ?_
  · intro ds hds
    match ds, hds with
    | [_, _], _ => rfl
  intro W base args ds ps hval hA hlt hsz
  rw [Try.params5] at hA hval
  obtain ⟨v0, vs0, d0, ds0, p0, q0, hargs, rfl, rfl, h0, r0⟩ := trodAll_cons hA
  obtain ⟨v1, vs1, d1, ds1, p1, q1, rfl, rfl, rfl, h1, r1⟩ := trodAll_cons r0
  obtain ⟨rfl, rfl, rfl⟩ := trodAll_nil r1
  obtain rfl : args = #[v0, v1] := by cases args; simp_all
  obtain ⟨a, rfl, ha⟩ := open_lab (hval 0 27 v0 rfl rfl) h0
  obtain ⟨b, rfl, _⟩ := open_lab (hval 1 27 v1 rfl rfl) h1
  exact labelpast_walk a b ha W

theorem labelpast_holds : Rows.LabelPastSaid :=
  OpenClaim.holds_of_wide 5 Try.f5 rfl rfl rfl rfl rfl rfl rfl ⟨rfl, rfl, rfl, rfl, rfl⟩ rfl rfl rfl rfl rfl (by kernel_rfl) Try.func5 (by kernel_rfl)
    (of_decide_eq_true (by kernel_rfl)) (by unfold Func.isWrapper; first | (rw [if_pos (by decide +kernel)]; kernel_rfl) | (rw [if_neg (by decide +kernel)]; exact ⟨rfl, rfl⟩))
    (fun os started H enc _ => labelpast_lifted os started H enc)


end Go.Proofs.Ytpimhohballafaa

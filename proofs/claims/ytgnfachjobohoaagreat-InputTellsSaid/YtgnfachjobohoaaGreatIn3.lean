/-
input: Same, Right.
-/
import Derived.Test.YtgnfachjobohoaaGreatIn
namespace Go.Proofs.YtgnfachjobohoaaGreat
open Go.RowKit
set_option linter.unusedSimpArgs false
set_option linter.unusedVariables false
namespace In
def zl : Lab := ⟨0, 0, 0, 0, 0, fun _ => 0⟩
theorem zl_list : zl.cells = zLabL := by
  rw [show zl.cells = [.int .u64 0, .int .i64 0, .int .u32 0, .int .i64 0, .int .i64 0] ++ vl (fun _ => 0) from by unfold Lab.cells zl; rfl]
  rw [show vl (fun _ => 0) = [.int .u32 0, .int .u32 0, .int .u32 0, .int .u32 0, .int .u32 0, .int .u32 0, .int .u32 0, .int .u32 0, .int .u32 0, .int .u32 0, .int .u32 0, .int .u32 0] from congrArg Array.toList vl_zero]
  rfl
theorem built_evo (o : OpR) : Tryz.prog.built 89 [(1, .agg o.cells.toArray)] = some (Ev.mk zl o).cells.toArray := by
  have h := built_ev zl o
  have e : Tryz.prog.built 89 [(0, .agg zl.cells.toArray), (1, .agg o.cells.toArray)] = Tryz.prog.built 89 [(1, .agg o.cells.toArray)] := by
    rw [built_ev_fill, built_ev_fill, op_arr, zl_list]
    unfold zLabL
    kernel_rfl
  rw [← e]; exact h
theorem sameE_zl (a b : OpR) : sameE (Ev.mk zl a) (Ev.mk zl b) = sameO a b := by unfold sameE; rw [eqL_self, Bool.true_and]
def numsI (a b : Iv) : Bool := (a.k == b.k) && ((a.ca == b.ca) && ((a.se == b.se) && (a.no == b.no)))
def sameI (a b : Iv) : Bool := numsI a b && (eqB a.f b.f && (((a.t : Int) == (b.t : Int)) && (sameO a.o b.o && sameP a.x.p b.x.p)))
set_option maxRecDepth 20000 in
set_option maxHeartbeats 4000000 in
theorem same_any (a b : Iv) (W : World) (ha : a.x.Ok W) (hb : b.x.Ok W) : Calls Tryz.prog 13 #[.agg a.cells.toArray, .agg b.cells.toArray] W fun e W' => e = .returned (.bool (sameI a b)) ∧ Below W.heap.size W W' := by
  have bA := (Blk.new W 48 a.cells.toArray).alloc (.cells b.cells.toArray 48)
  have bB : Blk ((W.alloc (.cells a.cells.toArray 48)).alloc (.cells b.cells.toArray 48)) (W.heap.size + 1) 48 b.cells.toArray := Blk.new' (by simp)
  have hB0 := ((Below.refl W.heap.size W).alloc (Nat.le_refl _) (.cells a.cells.toArray 48)).alloc (by simp) (.cells b.cells.toArray 48)
  obtain ⟨w1, hw1⟩ : ∃ w1, w1 = (W.alloc (.cells a.cells.toArray 48)).alloc (.cells b.cells.toArray 48) := ⟨_, rfl⟩
  rw [← hw1] at bA bB hB0
  have HW1 := Lib.hid hw1
  have HA := Lib.hid bA
  have HBb := Lib.hid bB
  have HB := Lib.hid hB0
  have HXA := Lib.hid (ha.next hB0)
  have HXB := Lib.hid (hb.next hB0)
  obtain ⟨-, -, -, -, a0, a1, a2, a3, -⟩ := iv_all bA
  obtain ⟨-, -, -, -, b0, b1, b2, b3, -⟩ := iv_all bB
  have HSE := Lib.hid (esame_any (Ev.mk zl a.o) w1 (Ev.mk zl b.o))
  rw [sameE_zl] at HSE
  obtain ⟨z1, h1⟩ : ∃ z, (a.k == b.k) = z := ⟨_, rfl⟩
  obtain ⟨z2, h2⟩ : ∃ z, (a.ca == b.ca) = z := ⟨_, rfl⟩
  obtain ⟨z3, h3⟩ : ∃ z, (a.se == b.se) = z := ⟨_, rfl⟩
  obtain ⟨z4, h4⟩ : ∃ z, (a.no == b.no) = z := ⟨_, rfl⟩
  obtain ⟨z5, h5⟩ : ∃ z, eqB a.f b.f = z := ⟨_, rfl⟩
  obtain ⟨z6, h6⟩ : ∃ z, ((a.t : Int) == (b.t : Int)) = z := ⟨_, rfl⟩
  obtain ⟨z7, h7⟩ : ∃ z, sameO a.o b.o = z := ⟨_, rfl⟩
  obtain ⟨z8, h8⟩ : ∃ z, sameP a.x.p b.x.p = z := ⟨_, rfl⟩
  rw [h7] at HSE
  have HS := Lib.hid (show sameI a b = ((z1 && (z2 && (z3 && z4))) && (z5 && (z6 && (z7 && z8)))) by unfold sameI numsI; rw [h1, h2, h3, h4, h5, h6, h7, h8])
  have HQ := Lib.hid (eqv a.f b.f h5)
  have H6 := Lib.hid h6
  have H8 := Lib.hid h8
  rw [HS.out]
  clear bA bB hB0 hw1 ha hb h5 h6 h7 h8 HS
  go_enter Tryz.func13, Tryz.ntmps13
  go_upto_region 1 with fail
  rw [← HW1.out]
  clear HW1
  go_cut [5] from 7 to 32 (fun vx wx => vx = .bool (z1 && (z2 && (z3 && z4))) ∧ wx = w1)
  case first =>
    cases z1 with
    | false =>
      go_wp2_with fail
      go_meet
      exact ⟨rfl, rfl⟩
    | true =>
      cases z2 with
      | false =>
        go_wp2_with fail
        go_meet
        exact ⟨rfl, rfl⟩
      | true =>
        cases z3 with
        | false =>
          go_wp2_with fail
          go_meet
          exact ⟨rfl, rfl⟩
        | true =>
          cases z4 with
          | false =>
            go_wp2_with fail
            go_meet
            exact ⟨rfl, rfl⟩
          | true =>
            go_wp2_with fail
            go_meet
            exact ⟨rfl, rfl⟩
  case rest =>
    obtain ⟨rfl, rfl⟩ := hcut
    obtain ⟨n, hn⟩ : ∃ n, n = (z1 && (z2 && (z3 && z4))) := ⟨_, rfl⟩
    rw [← hn]
    have HN := Lib.hid hn
    clear hn h1 h2 h3 h4 a0 a1 a2 a3 b0 b1 b2 b3
    obtain ⟨-, -, ra, -⟩ := iv_all HA.out
    obtain ⟨-, -, rb, -⟩ := iv_all HBb.out
    go_upto_region 3 with (first | (refine wpList_load_midg (by rfl) 46 _ rfl _ _ rfl (OpR.cells ?_) _ ?_ Tryz.underlying46 rfl (oinfo _) ?_; rotate_left; (focus assumption)) | (refine wpList_build_lit (Ev.mk zl a.o).cells.toArray rfl 89 _ rfl (built_evo a.o) ?_) | (refine wpList_build_lit (Ev.mk zl b.o).cells.toArray rfl 89 _ rfl (built_evo b.o) ?_) | (go_at_call 42; refine HSE.out.mono ?_; rintro e w2 ⟨rfl, hb⟩; have H2 := Lib.hid hb; clear hb ra rb HSE))
    have HF2 := Lib.hid (HB.out.trans (H2.out.mono HB.out.size))
    have HPS := Lib.hid (psame_any a.x b.x w2 (HXA.out.next H2.out) (HXB.out.next H2.out))
    rw [H8.out] at HPS
    obtain ⟨-, rfa, -, rxa, -, -, -, -, ta⟩ := iv_all (HA.out.next H2.out)
    obtain ⟨-, rfb, -, rxb, -, -, -, -, tb⟩ := iv_all (HBb.out.next H2.out)
    have hq := HQ.out
    have h6 := H6.out
    clear HA HBb H2 HXA HXB HQ H6 H8 HB
    cases n with
    | false =>
      clear rfa rfb rxa rxb ta tb hq h6
      go_wp2_with fail
      go_ret
      exact ⟨by rw [← HN.out]; rfl, HF2.out⟩
    | true =>
      cases z5 with
      | false =>
        clear rxa rxb ta tb h6
        go_wp2_with (first | (refine wpList_load_midg (by rfl) 24 _ rfl _ _ rfl (vl ?_) _ ?_ Tryz.underlying24 rfl (vinfoL _) ?_; rotate_left; (focus assumption)))
        go_ret
        exact ⟨by rw [← HN.out]; rfl, HF2.out⟩
      | true =>
        cases z6 with
        | false =>
          clear rxa rxb
          go_wp2_with (first | (refine wpList_load_midg (by rfl) 24 _ rfl _ _ rfl (vl ?_) _ ?_ Tryz.underlying24 rfl (vinfoL _) ?_; rotate_left; (focus assumption)))
          go_ret
          exact ⟨by rw [← HN.out]; rfl, HF2.out⟩
        | true =>
          cases z7 with
          | false =>
            clear rxa rxb
            go_wp2_with (first | (refine wpList_load_midg (by rfl) 24 _ rfl _ _ rfl (vl ?_) _ ?_ Tryz.underlying24 rfl (vinfoL _) ?_; rotate_left; (focus assumption)))
            go_ret
            exact ⟨by rw [← HN.out]; rfl, HF2.out⟩
          | true =>
            go_wp2_with (first | (refine wpList_load_midg (by rfl) 24 _ rfl _ _ rfl (vl ?_) _ ?_ Tryz.underlying24 rfl (vinfoL _) ?_; rotate_left; (focus assumption)) | (refine wpList_load_midg (by rfl) 30 _ rfl _ _ rfl (Pk.Pc.cells ?_) _ ?_ Tryz.underlying30 rfl (Pk.pcinfo _) ?_; rotate_left; (focus assumption)) | (go_at_call 43; refine HPS.out.mono ?_; rintro e w3 ⟨rfl, hb⟩; have H3 := Lib.hid (HF2.out.trans (hb.mono HF2.out.size)); clear hb HPS))
            go_ret
            exact ⟨by rw [← HN.out]; cases z8 <;> rfl, H3.out⟩
/-- What an order's, a checkout's cart, time, and what was seen are. -/
def cartB (m : Iv) : Bool := withinB m.ca 1 12 && (decide (maxK m.f 11 ≤ 1048576) && decide (m.t ≤ 1099511627776))
def bodyI (m : Iv) : Bool := withinB m.k 1 6 && (!(hC m.k && !cartB m) && (!(hS m.k && !withinB m.se 1 12) && (!(hN m.k && !withinB m.no 1 12) && (!(hO m.k && !mayO m.o) && !(hP m.k && !Pk.rightB m.x.p)))))
/-- May an input be? -/
def rightI (m : Iv) : Bool := sameI m (partsI m) && bodyI m
theorem zx_ok (W : World) : zx.Ok W := ⟨Nat.le_refl _, (fun y hy => by cases hy), Or.inl rfl, fun _ => rfl⟩
theorem parts_ok {m : Iv} {W : World} (h : m.x.Ok W) : (partsI m).x.Ok W := by
  unfold partsI
  dsimp only
  split
  · exact h
  · exact zx_ok W
set_option maxRecDepth 20000 in
set_option maxHeartbeats 8000000 in
theorem right_any (m : Iv) (W : World) (hx : m.x.Ok W) : Calls Tryz.prog 11 #[.agg m.cells.toArray] W fun e W' => e = .returned (.bool (rightI m)) ∧ Below W.heap.size W W' := by
  have bA := Blk.new W 48 m.cells.toArray
  have hB0 := (Below.refl W.heap.size W).alloc (Nat.le_refl _) (.cells m.cells.toArray 48)
  obtain ⟨w0, hw0⟩ : ∃ w0, w0 = W.alloc (.cells m.cells.toArray 48) := ⟨_, rfl⟩
  rw [← hw0] at bA hB0
  have HX := Lib.hid (hx.next hB0)
  have HA := Lib.hid bA
  have HB := Lib.hid hB0
  have HW := Lib.hid hw0
  have ro := bA.range
  have c0 := (iv_all bA).2.2.2.2.1
  obtain ⟨z, hz⟩ : ∃ z, sameI m (partsI m) = z := ⟨_, rfl⟩
  obtain ⟨y, hy⟩ : ∃ z, withinB m.k 1 6 = z := ⟨_, rfl⟩
  obtain ⟨b1, h1⟩ : ∃ z, hC m.k = z := ⟨_, rfl⟩
  obtain ⟨b2, h2⟩ : ∃ z, hS m.k = z := ⟨_, rfl⟩
  obtain ⟨b3, h3⟩ : ∃ z, hN m.k = z := ⟨_, rfl⟩
  obtain ⟨b4, h4⟩ : ∃ z, hO m.k = z := ⟨_, rfl⟩
  obtain ⟨b5, h5⟩ : ∃ z, hP m.k = z := ⟨_, rfl⟩
  obtain ⟨g1, hg1⟩ : ∃ z, cartB m = z := ⟨_, rfl⟩
  obtain ⟨g2, hg2⟩ : ∃ z, withinB m.se 1 12 = z := ⟨_, rfl⟩
  obtain ⟨g3, hg3⟩ : ∃ z, withinB m.no 1 12 = z := ⟨_, rfl⟩
  obtain ⟨g4, hg4⟩ : ∃ z, mayO m.o = z := ⟨_, rfl⟩
  obtain ⟨g5, hg5⟩ : ∃ z, Pk.rightB m.x.p = z := ⟨_, rfl⟩
  have HR := Lib.hid (show rightI m = (z && (y && (!(b1 && !g1) && (!(b2 && !g2) && (!(b3 && !g3) && (!(b4 && !g4) && !(b5 && !g5))))))) by unfold rightI bodyI; rw [hz, hy, h1, h2, h3, h4, h5, hg1, hg2, hg3, hg4, hg5])
  rw [HR.out]
  have HS := Lib.hid (fun w (h : m.x.Ok w) => same_any m (partsI m) w h (parts_ok h))
  rw [hz] at HS
  have HG := Lib.hid (And.intro hg1 (And.intro hg2 (And.intro hg3 (And.intro hg4 hg5))))
  have HY := Lib.hid hy
  clear hx bA hB0 hw0 hz hy HR hg1 hg2 hg3 hg4 hg5
  go_enter Tryz.func11, Tryz.ntmps11
  go_upto_region 1 with fail
  rw [← HW.out]
  clear HW
  refine wp_region_tree (S := (fun W' => Below w0.heap.size w0 W' ∧ W'.rangeAt W.heap.size 0 m.cells ∧ W'.cell? ⟨W.heap.size, 0, none⟩ = some (.int .i64 m.k))) (.take 0 (.take 1 (.one 2 (.one 3 (.take 4 (.take 5 (.take 6 (.take 7 (.one 8 (.take 9 (.take 10 .nil))))))))))) 9999 (by kernel_rfl) (by kernel_rfl) (by kernel_rfl) (by kernel_rfl) (by kernel_rfl) (fun _ _ d _ _ h => by cases d <;> exact h) ⟨(Below.refl _ _).drew, ro, c0⟩ (fun hHeld => ?_); simp only [Tree.map, List.getElem?_toArray, List.getElem?_cons_zero, List.getElem?_cons_succ]
  (repeat (first | (refine wpTree.take (v := undef) (Or.inr ⟨by rfl, rfl⟩) ?_; simp only [Act.put, List.setIfInBounds_toArray, List.set_cons_zero, List.set_cons_succ]) | (refine wpTree.take (v := .agg (Iv.cells ?_).toArray) (yieldsIf_load_mid rfl 48 _ rfl _ _ rfl (Iv.cells _) _ ?_ Tryz.underlying48 rfl (ivinfo _)) ?_; rotate_left; (focus (intro _ hS; exact hS.2.1)); simp only [Act.put, List.setIfInBounds_toArray, List.set_cons_zero, List.set_cons_succ]) | (refine wpTree.take (v := ?_) (Or.inl ⟨by rfl, ?_⟩) ?_; rotate_left; (focus (intro _ hS; (try dsimp only at hS); go_split_ands; (try subst hS); go_simp; (try (with_reducible rfl)); done)); simp only [Act.put, List.setIfInBounds_toArray, List.set_cons_zero, List.set_cons_succ])))
  refine wpTree.one (fun K hK => ?_)
  go_simp
  go_at_call 29
  refine (parts_any m _).mono ?_
  rintro e W2 ⟨rfl, hb⟩
  have k2 := hHeld.1.trans (hb.mono hHeld.1.size)
  refine hK.out _ _ ⟨k2, range_next hb hHeld.2.1, (HA.out.next k2).cell 0 |>.trans (by rw [List.getElem?_toArray]; exact iv_0 m 0 (by omega))⟩ (fun _ => ?_)
  clear hK K hb hHeld
  (try simp only [Act.put, List.setIfInBounds_toArray, List.set_cons_zero, List.set_cons_succ])
  refine wpTree.one (fun K hK => ?_)
  go_simp
  go_at_call 13
  refine (HS.out _ (HX.out.next k2)).mono ?_
  rintro e W3 ⟨rfl, hb⟩
  have k3 := k2.trans (hb.mono k2.size)
  have r3 := (HA.out.next k3).range
  have c3 := (iv_all (HA.out.next k3)).2.2.2.2.1
  refine hK.out _ _ ⟨k3, r3, c3⟩ (fun _ => ?_)
  clear hK K hb k2
  (try simp only [Act.put, List.setIfInBounds_toArray, List.set_cons_zero, List.set_cons_succ])
  have HK3 := Lib.hid k3
  clear HS ro c0 k3
  cases z with
  | false =>
    (repeat (first | (refine wpTree.take (v := undef) (Or.inr ⟨by rfl, rfl⟩) ?_; simp only [Act.put, List.setIfInBounds_toArray, List.set_cons_zero, List.set_cons_succ]) | (refine wpTree.take (v := ?_) (Or.inl ⟨by rfl, ?_⟩) ?_; rotate_left; (focus (intro _ hS; (try dsimp only at hS); go_split_ands; (try subst hS); go_simp; (try (with_reducible rfl)); done)); simp only [Act.put, List.setIfInBounds_toArray, List.set_cons_zero, List.set_cons_succ])))
    refine wpTree.one (fun K hK => ?_)
    show K _ _
    refine hK.out _ _ ⟨HK3.out, r3, c3⟩ (fun _ => ?_)
    clear hK K
    (try simp only [Act.put, List.setIfInBounds_toArray, List.set_cons_zero, List.set_cons_succ])
    (repeat (first | (refine wpTree.take (v := undef) (Or.inr ⟨by rfl, rfl⟩) ?_; simp only [Act.put, List.setIfInBounds_toArray, List.set_cons_zero, List.set_cons_succ]) | (refine wpTree.take (v := ?_) (Or.inl ⟨by rfl, ?_⟩) ?_; rotate_left; (focus (intro _ hS; (try dsimp only at hS); go_split_ands; (try subst hS); go_simp; (try (with_reducible rfl)); done)); simp only [Act.put, List.setIfInBounds_toArray, List.set_cons_zero, List.set_cons_succ])))
    refine wpTree.done ?_
    go_wp2_with fail
    go_ret
    exact ⟨rfl, HB.out.trans (HK3.out.mono HB.out.size)⟩
  | true =>
    (repeat (first | (refine wpTree.take (v := undef) (Or.inr ⟨by rfl, rfl⟩) ?_; simp only [Act.put, List.setIfInBounds_toArray, List.set_cons_zero, List.set_cons_succ]) | (refine wpTree.take (v := ?_) (Or.inl ⟨by rfl, ?_⟩) ?_; rotate_left; (focus (intro _ hS; (try dsimp only at hS); go_split_ands; (try subst hS); go_simp; (try (with_reducible rfl)); done)); simp only [Act.put, List.setIfInBounds_toArray, List.set_cons_zero, List.set_cons_succ])))
    refine wpTree.one (fun K hK => ?_)
    go_simp
    go_at_call 30
    refine (within_any _ _ _ _).mono ?_
    rintro e W4 ⟨rfl, rfl⟩
    rw [HY.out]
    refine hK.out _ _ ⟨HK3.out, r3, c3⟩ (fun _ => ?_)
    clear hK K
    (try simp only [Act.put, List.setIfInBounds_toArray, List.set_cons_zero, List.set_cons_succ])
    (repeat (first | (refine wpTree.take (v := undef) (Or.inr ⟨by rfl, rfl⟩) ?_; simp only [Act.put, List.setIfInBounds_toArray, List.set_cons_zero, List.set_cons_succ]) | (refine wpTree.take (v := ?_) (Or.inl ⟨by rfl, ?_⟩) ?_; rotate_left; (focus (intro _ hS; (try dsimp only at hS); go_split_ands; (try subst hS); go_simp; (try (with_reducible rfl)); done)); simp only [Act.put, List.setIfInBounds_toArray, List.set_cons_zero, List.set_cons_succ])))
    refine wpTree.done ?_
    have H1 := Lib.hid (And.intro (HB.out.trans (HK3.out.mono HB.out.size)) (HA.out.next HK3.out))
    have HX1 := Lib.hid (HX.out.next HK3.out)
    clear r3 c3 HA HB HX HK3 HY
    cases y with
    | false =>
      go_wp2_with fail
      go_ret
      exact ⟨rfl, H1.out.1⟩
    | true =>
      rename World => w1
      obtain ⟨-, rf, -, -, c0, c1, -, -, ct⟩ := iv_all H1.out.2
      go_upto_region 3 with fail
      go_cut [14] from 15 to 34 (fun vx wx => vx = .bool (b1 && !g1) ∧ wx = w1)
      case first =>
        clear h2 h3 h4 h5 H1 HX1
        cases b1 with
        | false =>
          go_wp2_with (first | (go_at_call 31; refine (hascart_any _ _).mono ?_; rintro e wh ⟨rfl, rfl⟩; rw [h1]))
          go_meet
          exact ⟨rfl, rfl⟩
        | true =>
          have HC := Lib.hid (show g1 = (withinB m.ca 1 12 && (decide (maxK m.f 11 ≤ 1048576) && decide (m.t ≤ 1099511627776))) from HG.out.1.symm)
          obtain ⟨M, hM⟩ : ∃ M, M = maxK m.f 11 := ⟨_, rfl⟩
          have HM := Lib.hid (fun w h => max_any m.f W.heap.size 4 w h)
          rw [← hM] at HM HC
          obtain ⟨t, ht⟩ : ∃ t, t = m.t := ⟨_, rfl⟩
          rw [← ht] at ct HC
          obtain ⟨q, hq⟩ : ∃ q, withinB m.ca 1 12 = q := ⟨_, rfl⟩
          rw [hq] at HC
          have HRF := Lib.hid rf
          clear hM ht rf HG
          cases q with
          | false =>
            go_wp2_with (first | (go_at_call 31; refine (hascart_any _ _).mono ?_; rintro e wh ⟨rfl, rfl⟩; rw [h1]) | (go_at_call 30; refine (within_any _ _ _ _).mono ?_; rintro e wv ⟨rfl, rfl⟩; rw [hq]))
            go_meet
            exact ⟨by rw [HC.out]; rfl, rfl⟩
          | true =>
            by_cases p3 : (M : Int) ≤ 1048576
            · have d3 : decide ((1048576 : Int) < (M : Nat)) = false := by rw [decide_eq_false_iff_not]; omega
              have HD := Lib.hid (show decide (M ≤ 1048576) = true by simp; omega)
              clear p3
              by_cases p4 : (t : Int) ≤ 1099511627776
              · have d4 : decide ((1099511627776 : Int) < (t : Nat)) = false := by rw [decide_eq_false_iff_not]; omega
                have HE := Lib.hid (show decide (t ≤ 1099511627776) = true by simp; omega)
                clear p4
                go_wp2_with (first | (go_at_call 31; refine (hascart_any _ _).mono ?_; rintro e wh ⟨rfl, rfl⟩; rw [h1]) | (go_at_call 30; refine (within_any _ _ _ _).mono ?_; rintro e wv ⟨rfl, rfl⟩; rw [hq]) | (go_at_call 32; refine (HM.out _ HRF.out).mono ?_; rintro e w3 ⟨rfl, rfl⟩))
                go_meet
                exact ⟨by rw [HC.out, HD.out, HE.out]; rfl, rfl⟩
              · have d4 : decide ((1099511627776 : Int) < (t : Nat)) = true := by rw [decide_eq_true_iff]; omega
                have HE := Lib.hid (show decide (t ≤ 1099511627776) = false by simp; omega)
                clear p4
                go_wp2_with (first | (go_at_call 31; refine (hascart_any _ _).mono ?_; rintro e wh ⟨rfl, rfl⟩; rw [h1]) | (go_at_call 30; refine (within_any _ _ _ _).mono ?_; rintro e wv ⟨rfl, rfl⟩; rw [hq]) | (go_at_call 32; refine (HM.out _ HRF.out).mono ?_; rintro e w3 ⟨rfl, rfl⟩))
                go_meet
                exact ⟨by rw [HC.out, HD.out, HE.out]; rfl, rfl⟩
            · have d3 : decide ((1048576 : Int) < (M : Nat)) = true := by rw [decide_eq_true_iff]; omega
              have HD := Lib.hid (show decide (M ≤ 1048576) = false by simp; omega)
              clear p3
              go_wp2_with (first | (go_at_call 31; refine (hascart_any _ _).mono ?_; rintro e wh ⟨rfl, rfl⟩; rw [h1]) | (go_at_call 30; refine (within_any _ _ _ _).mono ?_; rintro e wv ⟨rfl, rfl⟩; rw [hq]) | (go_at_call 32; refine (HM.out _ HRF.out).mono ?_; rintro e w3 ⟨rfl, rfl⟩))
              go_meet
              exact ⟨by rw [HC.out, HD.out]; rfl, rfl⟩
      case rest =>
        obtain ⟨rfl, rfl⟩ := hcut
        obtain ⟨v1, hv1⟩ : ∃ v, v = (b1 && !g1) := ⟨_, rfl⟩
        rw [← hv1]
        have HV1 := Lib.hid hv1
        clear hv1
        cases v1 with
        | true =>
          go_wp2_with fail
          go_ret
          exact ⟨by rw [← HV1.out]; rfl, H1.out.1⟩
        | false =>
          obtain ⟨-, -, -, -, c0, -, c2, c3, -⟩ := iv_all H1.out.2
          clear c3
          go_upto_region 5 with fail
          go_cut [35] from 36 to 44 (fun vx wx => vx = .bool (b2 && !g2) ∧ wx = wc)
          case first =>
            clear H1 HX1
            have hq := HG.out.2.1
            cases b2 with
            | false =>
              go_wp2_with (first | (go_at_call 33; refine (hasseller_any _ _).mono ?_; rintro e wh ⟨rfl, rfl⟩; rw [h2]))
              go_meet
              exact ⟨rfl, rfl⟩
            | true =>
              cases g2 with
              | false =>
                go_wp2_with (first | (go_at_call 33; refine (hasseller_any _ _).mono ?_; rintro e wh ⟨rfl, rfl⟩; rw [h2]) | (go_at_call 30; refine (within_any _ _ _ _).mono ?_; rintro e wv ⟨rfl, rfl⟩; rw [hq]))
                go_meet
                exact ⟨rfl, rfl⟩
              | true =>
                go_wp2_with (first | (go_at_call 33; refine (hasseller_any _ _).mono ?_; rintro e wh ⟨rfl, rfl⟩; rw [h2]) | (go_at_call 30; refine (within_any _ _ _ _).mono ?_; rintro e wv ⟨rfl, rfl⟩; rw [hq]))
                go_meet
                exact ⟨rfl, rfl⟩
          case rest =>
            obtain ⟨rfl, rfl⟩ := hcut
            obtain ⟨v2, hv2⟩ : ∃ v, v = (b2 && !g2) := ⟨_, rfl⟩
            rw [← hv2]
            have HV2 := Lib.hid hv2
            clear hv2
            cases v2 with
            | true =>
              go_wp2_with fail
              go_ret
              exact ⟨by rw [← HV1.out, ← HV2.out]; rfl, H1.out.1⟩
            | false =>
              obtain ⟨-, -, -, -, c0, -, c2, c3, -⟩ := iv_all H1.out.2
              clear c2
              go_upto_region 7 with fail
              go_cut [45] from 46 to 54 (fun vx wx => vx = .bool (b3 && !g3) ∧ wx = wc)
              case first =>
                clear H1 HX1
                have hq := HG.out.2.2.1
                cases b3 with
                | false =>
                  go_wp2_with (first | (go_at_call 34; refine (hasnode_any _ _).mono ?_; rintro e wh ⟨rfl, rfl⟩; rw [h3]))
                  go_meet
                  exact ⟨rfl, rfl⟩
                | true =>
                  cases g3 with
                  | false =>
                    go_wp2_with (first | (go_at_call 34; refine (hasnode_any _ _).mono ?_; rintro e wh ⟨rfl, rfl⟩; rw [h3]) | (go_at_call 30; refine (within_any _ _ _ _).mono ?_; rintro e wv ⟨rfl, rfl⟩; rw [hq]))
                    go_meet
                    exact ⟨rfl, rfl⟩
                  | true =>
                    go_wp2_with (first | (go_at_call 34; refine (hasnode_any _ _).mono ?_; rintro e wh ⟨rfl, rfl⟩; rw [h3]) | (go_at_call 30; refine (within_any _ _ _ _).mono ?_; rintro e wv ⟨rfl, rfl⟩; rw [hq]))
                    go_meet
                    exact ⟨rfl, rfl⟩
              case rest =>
                obtain ⟨rfl, rfl⟩ := hcut
                obtain ⟨v3, hv3⟩ : ∃ v, v = (b3 && !g3) := ⟨_, rfl⟩
                rw [← hv3]
                have HV3 := Lib.hid hv3
                clear hv3
                cases v3 with
                | true =>
                  go_wp2_with fail
                  go_ret
                  exact ⟨by rw [← HV1.out, ← HV2.out, ← HV3.out]; rfl, H1.out.1⟩
                | false =>
                  obtain ⟨-, -, ro, -, c0, -, -, -, -⟩ := iv_all H1.out.2
                  go_upto_region 9 with fail
                  go_cut [55] from 56 to 64 (fun vx wx => vx = .bool (b4 && !g4) ∧ Below wc.heap.size wc wx)
                  case first =>
                    clear H1 HX1
                    cases b4 with
                    | false =>
                      clear ro
                      go_wp2_with (first | (go_at_call 35; refine (hasop_any _ _).mono ?_; rintro e wh ⟨rfl, rfl⟩; rw [h4]))
                      go_meet
                      exact ⟨rfl, Below.refl _ _⟩
                    | true =>
                      have HM := Lib.hid (fun w => may_any m.o w)
                      rw [HG.out.2.2.2.1] at HM
                      cases g4 with
                      | false =>
                        go_wp2_with (first | (go_at_call 35; refine (hasop_any _ _).mono ?_; rintro e wh ⟨rfl, rfl⟩; rw [h4]) | (refine wpList_load_midg (by rfl) 46 _ rfl _ _ rfl (OpR.cells ?_) _ ?_ Tryz.underlying46 rfl (oinfo _) ?_; rotate_left; (focus assumption)) | (go_at_call 36; refine (HM.out _).mono ?_; rintro e wv ⟨rfl, hb⟩; have HBV := Lib.hid hb; clear hb ro))
                        go_meet
                        exact ⟨rfl, HBV.out⟩
                      | true =>
                        go_wp2_with (first | (go_at_call 35; refine (hasop_any _ _).mono ?_; rintro e wh ⟨rfl, rfl⟩; rw [h4]) | (refine wpList_load_midg (by rfl) 46 _ rfl _ _ rfl (OpR.cells ?_) _ ?_ Tryz.underlying46 rfl (oinfo _) ?_; rotate_left; (focus assumption)) | (go_at_call 36; refine (HM.out _).mono ?_; rintro e wv ⟨rfl, hb⟩; have HBV := Lib.hid hb; clear hb ro))
                        go_meet
                        exact ⟨rfl, HBV.out⟩
                  case rest =>
                    obtain ⟨rfl, hbc⟩ := hcut
                    have H2 := Lib.hid (And.intro (H1.out.1.trans (hbc.mono H1.out.1.size)) (H1.out.2.next hbc))
                    clear hbc c0 ro
                    obtain ⟨v4, hv4⟩ : ∃ v, v = (b4 && !g4) := ⟨_, rfl⟩
                    rw [← hv4]
                    have HV4 := Lib.hid hv4
                    clear hv4
                    cases v4 with
                    | true =>
                      go_wp2_with fail
                      go_ret
                      exact ⟨by rw [← HV1.out, ← HV2.out, ← HV3.out, ← HV4.out]; rfl, H2.out.1⟩
                    | false =>
                      obtain ⟨-, -, -, rx, c0, -, -, -, -⟩ := iv_all H2.out.2
                      go_upto_region 11 with fail
                      go_cut [65] from 66 to 74 (fun vx wx => vx = .bool (b5 && !g5) ∧ Below wc.heap.size wc wx)
                      case first =>
                        clear H1 H2 HX1
                        cases b5 with
                        | false =>
                          clear rx
                          go_wp2_with (first | (go_at_call 37; refine (haspacket_any _ _).mono ?_; rintro e wh ⟨rfl, rfl⟩; rw [h5]))
                          go_meet
                          exact ⟨rfl, Below.refl _ _⟩
                        | true =>
                          have HM := Lib.hid (fun w => Pk.right_any w m.x)
                          rw [HG.out.2.2.2.2] at HM
                          cases g5 with
                          | false =>
                            go_wp2_with (first | (go_at_call 37; refine (haspacket_any _ _).mono ?_; rintro e wh ⟨rfl, rfl⟩; rw [h5]) | (refine wpList_load_midg (by rfl) 30 _ rfl _ _ rfl (Pk.Pc.cells ?_) _ ?_ Tryz.underlying30 rfl (Pk.pcinfo _) ?_; rotate_left; (focus assumption)) | (go_at_call 38; refine (HM.out _).mono ?_; rintro e wv ⟨rfl, hb⟩; have HBV := Lib.hid hb; clear hb rx))
                            go_meet
                            exact ⟨rfl, HBV.out⟩
                          | true =>
                            go_wp2_with (first | (go_at_call 37; refine (haspacket_any _ _).mono ?_; rintro e wh ⟨rfl, rfl⟩; rw [h5]) | (refine wpList_load_midg (by rfl) 30 _ rfl _ _ rfl (Pk.Pc.cells ?_) _ ?_ Tryz.underlying30 rfl (Pk.pcinfo _) ?_; rotate_left; (focus assumption)) | (go_at_call 38; refine (HM.out _).mono ?_; rintro e wv ⟨rfl, hb⟩; have HBV := Lib.hid hb; clear hb rx))
                            go_meet
                            exact ⟨rfl, HBV.out⟩
                      case rest =>
                        obtain ⟨rfl, hbc⟩ := hcut
                        have H3 := Lib.hid (And.intro (H2.out.1.trans (hbc.mono H2.out.1.size)) (H2.out.2.next hbc))
                        clear hbc c0 rx
                        obtain ⟨v5, hv5⟩ : ∃ v, v = (b5 && !g5) := ⟨_, rfl⟩
                        rw [← hv5]
                        have HV5 := Lib.hid hv5
                        clear hv5
                        cases v5 with
                        | true =>
                          go_wp2_with fail
                          go_ret
                          exact ⟨by rw [← HV1.out, ← HV2.out, ← HV3.out, ← HV4.out, ← HV5.out]; rfl, H3.out.1⟩
                        | false =>
                          go_wp2_with fail
                          go_ret
                          exact ⟨by rw [← HV1.out, ← HV2.out, ← HV3.out, ← HV4.out, ← HV5.out]; rfl, H3.out.1⟩
end In
end Go.Proofs.YtgnfachjobohoaaGreat

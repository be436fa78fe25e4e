/-
tree: TreeNext, walked.
-/
import Derived.Test.YtopkfmamjlkjiaaTs3
namespace Go.Proofs.Ytopkfmamjlkjiaa
open Go.RowKit
set_option linter.unusedSimpArgs false
set_option linter.unusedVariables false
namespace Tr
theorem has_take_succ {l : List Nat} {j n : Nat} {x : Int} (h : l[j]? = some n) : hasB (l.take (j + 1)) x = (hasB (l.take j) x || decide (((n : Nat) : Int) = x)) := by
  unfold hasB
  rw [List.take_add_one, h]
  simp
theorem next_has (t : Tv) (a b : Int) : hasB (nextL t a) b = hasB (nextL t b) a := by
  rw [Bool.eq_iff_iff, has_iff, has_iff, next_mem, next_mem, jn_symm]
set_option maxRecDepth 20000 in
set_option maxHeartbeats 32000000 in
theorem next_walk (W : World) (t : Tv) (hr : RowsOf ec 2 W t.A t.es) (a b : Int) (ha9 : a ≤ 9223372036854775807) :
    Calls Try.prog 5 #[.agg t.cells.toArray, .int .i64 a, .int .i64 b] W fun e W' => e = .returned (.bool true) ∧ Below W.heap.size W W' := by
  have HR := Lib.hid hr
  have HA9 := Lib.hid ha9
  have bb := (Below.refl W.heap.size W).alloc (Nat.le_refl _) (.cells t.cells.toArray 25)
  have hx : Blk (W.alloc (.cells t.cells.toArray 25)) W.heap.size 25 t.cells.toArray := Blk.new W _ _
  obtain ⟨w2, hw2⟩ : ∃ w2, w2 = W.alloc (.cells t.cells.toArray 25) := ⟨_, rfl⟩
  rw [← hw2] at bb hx
  have HB2 := Lib.hid bb
  have HX2 := Lib.hid hx
  have hr0 : w2.rangeAt W.heap.size 0 t.cells := hx.range
  clear bb hx hr ha9
  have HG := Lib.hid (great_any w2 t)
  go_enter Try.func5, Try.ntmps5
  go_upto_region 1 with fail
  rw [← hw2]
  clear hw2
  obtain ⟨gx, hgx⟩ : ∃ gx, gx = W.heap.size := ⟨_, rfl⟩
  rw [← hgx] at HX2 hr0
  (try rw [← hgx])
  clear hgx
  cases hG : decide (20 < t.es.length) with
  | true =>
    rw [hG] at HG
    go_wp2_with (first | (refine load_midg rfl 25 _ rfl _ _ rfl t.cells _ hr0 Try.underlying25 rfl (tvinfo t) ?_; (try simp only [Act.put, List.setIfInBounds_toArray, List.set_cons_zero, List.set_cons_succ])) | (go_at_call 11; refine HG.out.mono ?_; rintro e w3 ⟨rfl, hb⟩; have HB3 := Lib.hid (HB2.out.trans (hb.mono HB2.out.size)); have HX3 := Lib.hid (HX2.out.next hb); have hr0 := HX3.out.range; have HAL := Lib.hid (alive18_any w3); clear hb HG) | (go_at_call 12; refine HAL.out.mono ?_; rintro e w6 ⟨rfl, hb⟩; have HB6 := Lib.hid (HB3.out.trans (hb.mono HB3.out.size)); clear hb HAL))
    go_ret
    exact ⟨rfl, HB6.out⟩
  | false =>
  rw [hG] at HG
  have HLE := Lib.hid (show t.es.length ≤ 1000000 by have := of_decide_eq_false hG; omega)
  clear hG
  go_upto_region 3 with (first | (refine load_midg rfl 25 _ rfl _ _ rfl t.cells _ hr0 Try.underlying25 rfl (tvinfo t) ?_; (try simp only [Act.put, List.setIfInBounds_toArray, List.set_cons_zero, List.set_cons_succ])) | (go_at_call 11; refine HG.out.mono ?_; rintro e w3 ⟨rfl, hb⟩; have HB3 := Lib.hid (HB2.out.trans (hb.mono HB2.out.size)); have HX3 := Lib.hid (HX2.out.next hb); have hr0 := HX3.out.range; have HAL := Lib.hid (alive18_any w3); clear hb HG))
  clear hr0 HAL
  obtain ⟨L, hL⟩ : ∃ L, L = nextL t a := ⟨_, rfl⟩
  obtain ⟨M, hM⟩ : ∃ M, M = nextL t b := ⟨_, rfl⟩
  have HLM := Lib.hid (And.intro hL hM)
  have hcc : w3.rangeAt gx 0 t.cells := HX3.out.range
  have HN1 := Lib.hid (show Calls Try.prog 22 #[.agg t.cells.toArray, .int .i64 a] w3.drew fun e W' => ∃ v, e = .returned v ∧ Nds W' w3.drew.heap.size v L ∧ Below w3.drew.heap.size w3.drew W' by rw [hL]; exact next_any w3.drew t (HR.out.next HB3.out.drew) HLE.out a)
  clear hL
  refine wp_region_tree (S := (fun w' => w'.rangeAt gx 0 t.cells)) (.take 0 (.take 1 (.take 3 (.take 4 (.one 2 (.one 5 (.take 6 (.take 7 .nil)))))))) 9999 (by kernel_rfl) (by kernel_rfl) (by kernel_rfl) (by kernel_rfl) (by kernel_rfl) (fun _ _ d _ _ h => by cases d <;> exact h) hcc (fun hHeld => ?_); simp only [Tree.map, List.getElem?_toArray, List.getElem?_cons_zero, List.getElem?_cons_succ]
  (repeat (first | (refine wpTree.take (v := undef) (Or.inr ⟨by rfl, rfl⟩) ?_; simp only [Act.put, List.setIfInBounds_toArray, List.set_cons_zero, List.set_cons_succ]) | (refine wpTree.take (v := .agg t.cells.toArray) (yieldsIf_load_mid rfl 25 _ rfl _ _ rfl t.cells _ (fun _ hS => hS) Try.underlying25 rfl (tvinfo t)) ?_; simp only [Act.put, List.setIfInBounds_toArray, List.set_cons_zero, List.set_cons_succ]) | (refine wpTree.take (v := ?_) (Or.inl ⟨by rfl, ?_⟩) ?_; rotate_left; (focus (intro _ hS; (try dsimp only at hS); go_split_ands; (try subst hS); go_simp; (try (with_reducible rfl)); done)); simp only [Act.put, List.setIfInBounds_toArray, List.set_cons_zero, List.set_cons_succ])))
  clear hcc
  refine wpTree.one (fun K hK => ?_)
  go_simp
  go_at_call 22
  refine HN1.out.mono ?_
  rintro e wa ⟨vl, rfl, hNa, hb⟩
  have hba : Below w3.heap.size w3 wa := (Below.refl w3.heap.size w3).drew.trans hb
  have HBA := Lib.hid hba
  have HNA := Lib.hid hNa
  have HN2 := Lib.hid (show Calls Try.prog 22 #[.agg t.cells.toArray, .int .i64 b] wa fun e W' => ∃ v, e = .returned v ∧ Nds W' wa.heap.size v M ∧ Below wa.heap.size wa W' by rw [hM]; exact next_any wa t (HR.out.next (HB3.out.trans (hba.mono HB3.out.size))) HLE.out b)
  refine hK.out _ _ (rng_next HX3.out.range hba) (fun _ => ?_)
  clear hK K hHeld hba hNa hb HN1 hM
  (try simp only [Act.put, List.setIfInBounds_toArray, List.set_cons_zero, List.set_cons_succ])
  refine wpTree.one (fun K hK => ?_)
  go_simp
  go_at_call 22
  refine HN2.out.mono ?_
  rintro e wb ⟨vm, rfl, hNb, hb⟩
  have hbb : Below w3.heap.size w3 wb := HBA.out.trans (hb.mono HBA.out.size)
  have HM := Lib.hid (show LM W wb gx t vl L vm M from ⟨HX3.out.next hbb, (HNA.out.next hb).le HB3.out.size, hNb.le (HB3.out.trans (HBA.out.mono HB3.out.size)).size, HB3.out.trans (hbb.mono HB3.out.size)⟩)
  refine hK.out _ _ (rng_next HX3.out.range hbb) (fun _ => ?_)
  clear hK K hbb hNb hb HN2 HNA HBA
  (try simp only [Act.put, List.setIfInBounds_toArray, List.set_cons_zero, List.set_cons_succ])
  (repeat (first | (refine wpTree.take (v := undef) (Or.inr ⟨by rfl, rfl⟩) ?_; simp only [Act.put, List.setIfInBounds_toArray, List.set_cons_zero, List.set_cons_succ]) | (refine wpTree.take (v := ?_) (Or.inl ⟨by rfl, ?_⟩) ?_; rotate_left; (focus (intro _ hS; (try dsimp only at hS); go_split_ands; (try subst hS); go_simp; (try (with_reducible rfl)); done)); simp only [Act.put, List.setIfInBounds_toArray, List.set_cons_zero, List.set_cons_succ])))
  refine wpTree.done ?_
  obtain ⟨Al, cl, hvl⟩ := HM.out.rl.shape
  obtain ⟨Am, cm, hvm⟩ := HM.out.rh.shape
  subst hvl
  subst hvm
  have HL12 := Lib.hid (show L.length ≤ 12 ∧ M.length ≤ 12 by rw [HLM.out.1, HLM.out.2]; unfold nextL thoseL; exact ⟨those_le _ 12, those_le _ 12⟩)
  obtain ⟨nL, hnL⟩ : ∃ n, n = L.length := ⟨_, rfl⟩
  obtain ⟨nM, hnM⟩ : ∃ n, n = M.length := ⟨_, rfl⟩
  rw [← hnL, ← hnM] at HM
  (try rw [← hnL])
  (try rw [← hnM])
  have HNN := Lib.hid (And.intro hnL hnM)
  clear hnL hnM HX2 HX3 HB2 HB3
  go_upto_region 6 with fail
  go_loopw [9, 11] (fun is i wr => ∃ j : Nat, j ≤ nL ∧ i = .int .i64 j ∧ is = .bool (hasB (L.take j) b) ∧ LM W wr gx t (.slice Al nL cl) L (.slice Am nM cm) M) (fun _ i _ => nL - (intOf i).toNat)
  case atStart => exact ⟨0, Nat.zero_le _, rfl, rfl, HM.out⟩
  case round =>
    clear HM
    obtain ⟨j, hj, rfl, rfl, hM⟩ := hrel
    have HM := Lib.hid hM
    clear hM
    by_cases hlt : j < nL
    · have i1 : (j : Int) < (nL : Nat) := by omega
      have i2 : ¬ (j : Int) < 0 := by omega
      obtain ⟨jj, hjj⟩ : ∃ jj, jj = j + 1 := ⟨_, rfl⟩
      have HW := Lib.hid (wrap_n j jj hjj (by have := HNN.out; have := HL12.out; omega))
      have HJ := Lib.hid (And.intro hjj hlt)
      obtain ⟨n, hn⟩ : ∃ n, L[j]? = some n := ⟨_, List.getElem?_eq_getElem (by rw [← HNN.out.1]; exact hlt)⟩
      obtain ⟨q, qo, qc, ev, _, cn⟩ := HM.out.rl.at_ hn
      simp only [Value.slice.injEq] at ev
      obtain ⟨rfl, -, rfl⟩ := ev
      have HS := Lib.hid (has_take_succ (x := b) hn)
      obtain ⟨h1, hh1⟩ : ∃ h1, h1 = hasB (L.take j) b := ⟨_, rfl⟩
      rw [← hh1] at HS
      (try rw [← hh1])
      clear hj hlt hjj hn hh1
      cases h1 with
      | true =>
        go_wp2_with fail
        rw [HW.out]
        go_roundw
        case rel => exact ⟨jj, by have := HJ.out; omega, rfl, by rw [HJ.out.1, HS.out]; rfl, HM.out⟩
        case measure => have := HJ.out; simp [intOf]; omega
      | false =>
        by_cases hx : ((n : Nat) : Int) = b
        · have t1 : (((n : Nat) : Int) == b) = true := by rw [hx]; simp
          have HX := Lib.hid (decide_eq_true hx)
          clear hx
          go_wp2_with fail
          rw [HW.out]
          go_roundw
          case rel => exact ⟨jj, by have := HJ.out; omega, rfl, by rw [HJ.out.1, HS.out, HX.out]; rfl, HM.out⟩
          case measure => have := HJ.out; simp [intOf]; omega
        · have t1 : (((n : Nat) : Int) == b) = false := by simpa using hx
          have HX := Lib.hid (decide_eq_false hx)
          clear hx
          go_wp2_with fail
          rw [HW.out]
          go_roundw
          case rel => exact ⟨jj, by have := HJ.out; omega, rfl, by rw [HJ.out.1, HS.out, HX.out]; rfl, HM.out⟩
          case measure => have := HJ.out; simp [intOf]; omega
    · have i1 : ¬ (j : Int) < (nL : Nat) := by omega
      obtain ⟨is, his⟩ : ∃ is, is = hasB L b := ⟨_, rfl⟩
      rw [show L.take j = L from List.take_of_length_le (by rw [← HNN.out.1]; omega), ← his]
      have HIS := Lib.hid (show hasB M a = is by rw [his, HLM.out.1, HLM.out.2, next_has])
      clear hj hlt his
      go_upto_region 10 with fail
      clear i1
      go_loopw [10, 12] (fun may i wy => ∃ j : Nat, j ≤ nM ∧ i = .int .i64 j ∧ may = .bool (hasB (M.take j) a) ∧ LM W wy gx t (.slice Al nL cl) L (.slice Am nM cm) M) (fun _ i _ => nM - (intOf i).toNat)
      case atStart => exact ⟨0, Nat.zero_le _, rfl, rfl, HM.out⟩
      case round =>
        clear HM
        obtain ⟨j, hj, rfl, rfl, hM⟩ := hrel
        have HM := Lib.hid hM
        clear hM
        by_cases hlt : j < nM
        · have i1 : (j : Int) < (nM : Nat) := by omega
          have i2 : ¬ (j : Int) < 0 := by omega
          obtain ⟨jj, hjj⟩ : ∃ jj, jj = j + 1 := ⟨_, rfl⟩
          have HW := Lib.hid (wrap_n j jj hjj (by have := HNN.out; have := HL12.out; omega))
          have HJ := Lib.hid (And.intro hjj hlt)
          obtain ⟨n, hn⟩ : ∃ n, M[j]? = some n := ⟨_, List.getElem?_eq_getElem (by rw [← HNN.out.2]; exact hlt)⟩
          obtain ⟨q, qo, qc, ev, _, cn⟩ := HM.out.rh.at_ hn
          simp only [Value.slice.injEq] at ev
          obtain ⟨rfl, -, rfl⟩ := ev
          have HS := Lib.hid (has_take_succ (x := a) hn)
          obtain ⟨h1, hh1⟩ : ∃ h1, h1 = hasB (M.take j) a := ⟨_, rfl⟩
          rw [← hh1] at HS
          (try rw [← hh1])
          clear hj hlt hjj hn hh1
          cases h1 with
          | true =>
            go_wp2_with fail
            rw [HW.out]
            go_roundw
            case rel => exact ⟨jj, by have := HJ.out; omega, rfl, by rw [HJ.out.1, HS.out]; rfl, HM.out⟩
            case measure => have := HJ.out; simp [intOf]; omega
          | false =>
            by_cases hx : ((n : Nat) : Int) = a
            · have t1 : (((n : Nat) : Int) == a) = true := by rw [hx]; simp
              have HX := Lib.hid (decide_eq_true hx)
              clear hx
              go_wp2_with fail
              rw [HW.out]
              go_roundw
              case rel => exact ⟨jj, by have := HJ.out; omega, rfl, by rw [HJ.out.1, HS.out, HX.out]; rfl, HM.out⟩
              case measure => have := HJ.out; simp [intOf]; omega
            · have t1 : (((n : Nat) : Int) == a) = false := by simpa using hx
              have HX := Lib.hid (decide_eq_false hx)
              clear hx
              go_wp2_with fail
              rw [HW.out]
              go_roundw
              case rel => exact ⟨jj, by have := HJ.out; omega, rfl, by rw [HJ.out.1, HS.out, HX.out]; rfl, HM.out⟩
              case measure => have := HJ.out; simp [intOf]; omega
        · have i1 : ¬ (j : Int) < (nM : Nat) := by omega
          rw [show M.take j = M from List.take_of_length_le (by rw [← HNN.out.2]; omega), HIS.out]
          clear hj hlt
          have hr0 : wr.rangeAt gx 0 t.cells := HM.out.bx.range
          obtain ⟨ka, hka⟩ : ∃ ka, ka = kindV t.k a := ⟨_, rfl⟩
          have HKA := Lib.hid hka
          have HKD := Lib.hid (show Calls Try.prog 24 #[.agg t.cells.toArray, .int .i64 a] wr fun e W' => e = .returned (.int .i64 ka) ∧ Below wr.heap.size wr W' by rw [hka]; exact kind_any wr t a)
          clear hka
          cases is <;> (
            go_upto_region 16 with (first | (refine load_midg rfl 25 _ rfl _ _ rfl t.cells _ hr0 Try.underlying25 rfl (tvinfo t) ?_; (try simp only [Act.put, List.setIfInBounds_toArray, List.set_cons_zero, List.set_cons_succ])) | (go_at_call 24; refine HKD.out.mono ?_; rintro e wk ⟨rfl, hb⟩; have HMk := Lib.hid (HM.out.next hb); clear hb HKD))
            clear hr0 HM i1
            obtain ⟨rb, hrb⟩ := right_ex t
            have HRB := Lib.hid hrb
            have HRT := Lib.hid (right_is wk.drew (HR.out.next HMk.out.bel.drew) HLE.out hrb)
            clear hrb
            have hcc : wk.rangeAt gx 0 t.cells ∧ True := ⟨HMk.out.bx.range, trivial⟩
            cases rb with
            | false =>
              refine wp_region_tree (S := (fun w' => w'.rangeAt gx 0 t.cells ∧ True)) (.take 0 (.one 1 (.take 2 (.take 3 (.take 4 (.take 5 (.take 6 (.take 7 (.take 8 (.take 9 (.take 10 (.take 11 (.take 12 (.take 13 (.take 14 (.take 15 (.take 16 (.take 17 (.take 18 (.take 19 (.take 20 (.take 21 (.take 22 .nil))))))))))))))))))))))) 9999 (by kernel_rfl) (by kernel_rfl) (by kernel_rfl) (by kernel_rfl) (by kernel_rfl) (fun _ _ d _ _ h => by cases d <;> exact h) hcc (fun hHeld => ?_); simp only [Tree.map, List.getElem?_toArray, List.getElem?_cons_zero, List.getElem?_cons_succ]
              (repeat (first | (refine wpTree.take (v := undef) (Or.inr ⟨by rfl, rfl⟩) ?_; simp only [Act.put, List.setIfInBounds_toArray, List.set_cons_zero, List.set_cons_succ]) | (refine wpTree.take (v := .agg t.cells.toArray) (yieldsIf_load_mid rfl 25 _ rfl _ _ rfl t.cells _ (fun _ hS => hS.1) Try.underlying25 rfl (tvinfo t)) ?_; simp only [Act.put, List.setIfInBounds_toArray, List.set_cons_zero, List.set_cons_succ]) | (refine wpTree.take (v := ?_) (Or.inl ⟨by rfl, ?_⟩) ?_; rotate_left; (focus (intro _ hS; (try dsimp only at hS); go_split_ands; (try subst hS); go_simp; (try (with_reducible rfl)); done)); simp only [Act.put, List.setIfInBounds_toArray, List.set_cons_zero, List.set_cons_succ])))
              clear hcc
              refine wpTree.one (fun K hK => ?_)
              go_simp
              go_at_call 21
              refine HRT.out.mono ?_
              rintro e wn ⟨rfl, hb⟩
              have hbn : Below wk.heap.size wk wn := (Below.refl wk.heap.size wk).drew.trans hb
              have HMn := Lib.hid (HMk.out.next hbn)
              refine hK.out _ _ ⟨HMn.out.bx.range, trivial⟩ (fun _ => ?_)
              clear hK K hHeld hb hbn HRT
              (try simp only [Act.put, List.setIfInBounds_toArray, List.set_cons_zero, List.set_cons_succ])
              (repeat (first | (refine wpTree.take (v := undef) (Or.inr ⟨by rfl, rfl⟩) ?_; simp only [Act.put, List.setIfInBounds_toArray, List.set_cons_zero, List.set_cons_succ]) | (refine wpTree.take (v := .agg t.cells.toArray) (yieldsIf_load_mid rfl 25 _ rfl _ _ rfl t.cells _ (fun _ hS => hS.1) Try.underlying25 rfl (tvinfo t)) ?_; simp only [Act.put, List.setIfInBounds_toArray, List.set_cons_zero, List.set_cons_succ]) | (refine wpTree.take (v := ?_) (Or.inl ⟨by rfl, ?_⟩) ?_; rotate_left; (focus (intro _ hS; (try dsimp only at hS); go_split_ands; (try subst hS); go_simp; (try (with_reducible rfl)); done)); simp only [Act.put, List.setIfInBounds_toArray, List.set_cons_zero, List.set_cons_succ])))
              refine wpTree.done ?_

              have hr0 : wn.rangeAt gx 0 t.cells := HMn.out.bx.range
              have HHO := Lib.hid (homes_any wn t a HA9.out)
              go_upto_region 19 with (first | (refine load_midg rfl 25 _ rfl _ _ rfl t.cells _ hr0 Try.underlying25 rfl (tvinfo t) ?_; (try simp only [Act.put, List.setIfInBounds_toArray, List.set_cons_zero, List.set_cons_succ])) | (go_at_call 25; refine HHO.out.mono ?_; rintro e wh ⟨vh, rfl, hN, hb⟩; have HMh := Lib.hid (show LM W wh gx t (.slice Al nL cl) L vh (homesL t a) from ⟨HMn.out.bx.next hb, HMn.out.rl.next hb, hN.le HMn.out.bel.size, HMn.out.bel.trans (hb.mono HMn.out.bel.size)⟩); clear hb hN HHO))
              clear hr0
              obtain ⟨H, hH⟩ : ∃ H, H = homesL t a := ⟨_, rfl⟩
              rw [← hH] at HMh
              have hare := homes_are t a
              rw [← hH] at hare
              obtain ⟨Ah, ch, hvh⟩ := HMh.out.rh.shape
              subst hvh
              obtain ⟨nH, hnH⟩ : ∃ n, n = H.length := ⟨_, rfl⟩
              rw [← hnH] at HMh
              (try rw [← hnH])
              have HH := Lib.hid (And.intro hnH hare)
              clear hH hnH hare
              go_upto_region 20 with fail
              go_loopw [15] (fun i wy => ∃ j : Nat, j ≤ nH ∧ i = .int .i64 j ∧ LM W wy gx t (.slice Al nL cl) L (.slice Ah nH ch) H) (fun i _ => nH - (intOf i).toNat)
              case atStart => exact ⟨0, Nat.zero_le _, rfl, HMh.out⟩
              case round =>
                clear HMh
                obtain ⟨j, hj, rfl, hM⟩ := hrel
                have HMj := Lib.hid hM
                clear hM
                by_cases hlt : j < nH
                · have i1 : (j : Int) < (nH : Nat) := by omega
                  have i2 : ¬ (j : Int) < 0 := by omega
                  obtain ⟨jj, hjj⟩ : ∃ jj, jj = j + 1 := ⟨_, rfl⟩
                  have HW := Lib.hid (wrap_n j jj hjj (by have := HH.out.1; have := HH.out.2.1; omega))
                  have HJ := Lib.hid (And.intro hjj hlt)
                  obtain ⟨n, hn⟩ : ∃ n, H[j]? = some n := ⟨_, List.getElem?_eq_getElem (by rw [← HH.out.1]; exact hlt)⟩
                  obtain ⟨n0, hn0⟩ : ∃ n0, H[0]? = some n0 := ⟨_, List.getElem?_eq_getElem (by rw [← HH.out.1]; omega)⟩
                  obtain ⟨q, qo, qc, ev, _, cm⟩ := HMj.out.rh.at_ hn
                  obtain ⟨q', qo', qc', ev', _, cm0⟩ := HMj.out.rh.at_ hn0
                  simp only [Value.slice.injEq] at ev ev'
                  obtain ⟨rfl, -, rfl⟩ := ev
                  obtain ⟨ev', -, -⟩ := ev'
                  simp only [Option.some.injEq, Addr.mk.injEq, and_true] at ev'
                  obtain ⟨rfl, rfl⟩ := ev'
                  rw [Nat.add_zero] at cm0
                  have hk1 := HH.out.2.2.1 n (List.mem_of_getElem? hn)
                  have HKN := Lib.hid (show Calls Try.prog 24 #[.agg t.cells.toArray, .int .i64 (n : Nat)] wr.drew fun e W' => e = .returned (.int .i64 1) ∧ Below wr.drew.heap.size wr.drew W' by rw [← hk1]; exact kind_any wr.drew t (n : Nat))
                  have hcc : wr.rangeAt gx 0 t.cells ∧ wr.cell? ⟨q, qo + j, none⟩ = some (.int .i64 (n : Nat)) ∧ wr.cell? ⟨q, qo, none⟩ = some (.int .i64 (n0 : Nat)) := ⟨HMj.out.bx.range, cm, cm0⟩
                  have HCC := Lib.hid hcc
                  have n2 : 0 < nH := by omega
                  have n3 : (0 : Int) < (nH : Nat) := by omega
                  by_cases hj0 : j = 0
                  · have i3 : ¬ (0 : Int) < ((j : Nat) : Int) := by omega
                    have i5 : ¬ 0 < j := by omega
                    have i6 : decide (0 < j) = false := by simpa using i5
                    clear hj hlt hjj hn hn0 cm cm0 hk1 hj0
                    go_upto_region 22 with fail
                    refine wp_region_tree (S := (fun w' => w'.rangeAt gx 0 t.cells ∧ w'.cell? ⟨q, qo + j, none⟩ = some (.int .i64 (n : Nat)) ∧ w'.cell? ⟨q, qo, none⟩ = some (.int .i64 (n0 : Nat)))) (.take 0 (.take 1 (.take 2 (.take 3 (.take 4 (.one 5 (.take 6 (.take 7 (.take 8 (.take 9 (.take 10 (.take 11 (.take 12 (.take 13 (.take 14 (.take 15 (.take 16 (.take 17 (.take 18 (.take 19 (.take 20 .nil))))))))))))))))))))) 9999 (by kernel_rfl) (by kernel_rfl) (by kernel_rfl) (by kernel_rfl) (by kernel_rfl) (fun _ _ d _ _ h => by cases d <;> exact h) hcc (fun hHeld => ?_); simp only [Tree.map, List.getElem?_toArray, List.getElem?_cons_zero, List.getElem?_cons_succ]
                    (repeat (first | (refine wpTree.take (v := undef) (Or.inr ⟨by rfl, rfl⟩) ?_; simp only [Act.put, List.setIfInBounds_toArray, List.set_cons_zero, List.set_cons_succ]) | (refine wpTree.take (v := .agg t.cells.toArray) (yieldsIf_load_mid rfl 25 _ rfl _ _ rfl t.cells _ (fun _ hS => hS.1) Try.underlying25 rfl (tvinfo t)) ?_; simp only [Act.put, List.setIfInBounds_toArray, List.set_cons_zero, List.set_cons_succ]) | (refine wpTree.take (v := ?_) (Or.inl ⟨by rfl, ?_⟩) ?_; rotate_left; (focus (intro _ hS; (try dsimp only at hS); go_split_ands; (try subst hS); go_simp; (try (with_reducible rfl)); done)); simp only [Act.put, List.setIfInBounds_toArray, List.set_cons_zero, List.set_cons_succ])))
                    clear hcc
                    refine wpTree.one (fun K hK => ?_)
                    go_simp
                    go_at_call 24
                    refine HKN.out.mono ?_
                    rintro e w8 ⟨rfl, hb⟩
                    have hb8 : Below wr.heap.size wr w8 := (Below.refl wr.heap.size wr).drew.trans hb
                    have HM8 := Lib.hid (HMj.out.next hb8)
                    refine hK.out _ _ ⟨rng_next HCC.out.1 hb8, cell_next hb8 HCC.out.2.1, cell_next hb8 HCC.out.2.2⟩ (fun _ => ?_)
                    clear hK K hHeld hb hb8 HKN
                    (try simp only [Act.put, List.setIfInBounds_toArray, List.set_cons_zero, List.set_cons_succ])
                    (repeat (first | (refine wpTree.take (v := undef) (Or.inr ⟨by rfl, rfl⟩) ?_; simp only [Act.put, List.setIfInBounds_toArray, List.set_cons_zero, List.set_cons_succ]) | (refine wpTree.take (v := ?_) (Or.inl ⟨by rfl, ?_⟩) ?_; rotate_left; (focus (intro _ hS; (try dsimp only at hS); go_split_ands; (try subst hS); go_simp; (try (with_reducible rfl)); done)); simp only [Act.put, List.setIfInBounds_toArray, List.set_cons_zero, List.set_cons_succ])))
                    refine wpTree.done ?_
                    go_wp2_with fail
                    (try rw [HW.out])
                    go_roundw
                    case rel => exact ⟨jj, by have := HJ.out; omega, by first | rfl | simp [HJ.out.1], HM8.out⟩
                    case measure => have := HJ.out; simp [intOf]; omega
                  · have hj1 : j = 1 := by have := HH.out.1; have := HH.out.2.1; omega
                    have hne : n0 ≠ n := by
                      subst hj1
                      exact HH.out.2.2.2 n0 n hn0 hn
                    have i3 : (0 : Int) < ((j : Nat) : Int) := by omega
                    have i5 : 0 < j := by omega
                    have i6 : decide (0 < j) = true := by simpa using i5
                    have t3 : (((n : Nat) : Int) == ((n0 : Nat) : Int)) = false := by simpa using (show ¬ ((n : Nat) : Int) = ((n0 : Nat) : Int) by omega)
                    clear hj hlt hjj hn hn0 cm cm0 hk1 hj0 hj1 hne
                    go_upto_region 22 with fail
                    refine wp_region_tree (S := (fun w' => w'.rangeAt gx 0 t.cells ∧ w'.cell? ⟨q, qo + j, none⟩ = some (.int .i64 (n : Nat)) ∧ w'.cell? ⟨q, qo, none⟩ = some (.int .i64 (n0 : Nat)))) (.take 0 (.take 1 (.take 2 (.take 3 (.take 4 (.one 5 (.take 6 (.take 7 (.take 8 (.take 9 (.take 10 (.take 11 (.take 12 (.take 13 (.take 14 (.take 15 (.take 16 (.take 17 (.take 18 (.take 19 (.take 20 .nil))))))))))))))))))))) 9999 (by kernel_rfl) (by kernel_rfl) (by kernel_rfl) (by kernel_rfl) (by kernel_rfl) (fun _ _ d _ _ h => by cases d <;> exact h) hcc (fun hHeld => ?_); simp only [Tree.map, List.getElem?_toArray, List.getElem?_cons_zero, List.getElem?_cons_succ]
                    (repeat (first | (refine wpTree.take (v := undef) (Or.inr ⟨by rfl, rfl⟩) ?_; simp only [Act.put, List.setIfInBounds_toArray, List.set_cons_zero, List.set_cons_succ]) | (refine wpTree.take (v := .agg t.cells.toArray) (yieldsIf_load_mid rfl 25 _ rfl _ _ rfl t.cells _ (fun _ hS => hS.1) Try.underlying25 rfl (tvinfo t)) ?_; simp only [Act.put, List.setIfInBounds_toArray, List.set_cons_zero, List.set_cons_succ]) | (refine wpTree.take (v := ?_) (Or.inl ⟨by rfl, ?_⟩) ?_; rotate_left; (focus (intro _ hS; (try dsimp only at hS); go_split_ands; (try subst hS); go_simp; (try (with_reducible rfl)); done)); simp only [Act.put, List.setIfInBounds_toArray, List.set_cons_zero, List.set_cons_succ])))
                    clear hcc
                    refine wpTree.one (fun K hK => ?_)
                    go_simp
                    go_at_call 24
                    refine HKN.out.mono ?_
                    rintro e w8 ⟨rfl, hb⟩
                    have hb8 : Below wr.heap.size wr w8 := (Below.refl wr.heap.size wr).drew.trans hb
                    have HM8 := Lib.hid (HMj.out.next hb8)
                    refine hK.out _ _ ⟨rng_next HCC.out.1 hb8, cell_next hb8 HCC.out.2.1, cell_next hb8 HCC.out.2.2⟩ (fun _ => ?_)
                    clear hK K hHeld hb hb8 HKN
                    (try simp only [Act.put, List.setIfInBounds_toArray, List.set_cons_zero, List.set_cons_succ])
                    (repeat (first | (refine wpTree.take (v := undef) (Or.inr ⟨by rfl, rfl⟩) ?_; simp only [Act.put, List.setIfInBounds_toArray, List.set_cons_zero, List.set_cons_succ]) | (refine wpTree.take (v := ?_) (Or.inl ⟨by rfl, ?_⟩) ?_; rotate_left; (focus (intro _ hS; (try dsimp only at hS); go_split_ands; (try subst hS); go_simp; (try (with_reducible rfl)); done)); simp only [Act.put, List.setIfInBounds_toArray, List.set_cons_zero, List.set_cons_succ])))
                    refine wpTree.done ?_
                    go_wp2_with fail
                    rw [HW.out]
                    go_roundw
                    case rel => exact ⟨jj, by have := HJ.out; omega, rfl, HM8.out⟩
                    case measure => have := HJ.out; simp [intOf]; omega
                · have i1 : ¬ (j : Int) < (nH : Nat) := by omega
                  clear hj hlt
                  have HAL := Lib.hid (alive18_any wr)
                  have i4 : (nH : Int) ≤ 2 := by have := HH.out.1; have := HH.out.2.1; omega
                  have i5 : ¬ (2 : Int) < (nH : Int) := by omega
                  go_wp2_with ((go_at_call 12; refine HAL.out.mono ?_; rintro e w6 ⟨rfl, hb⟩; have HB6 := Lib.hid (HMj.out.bel.trans (hb.mono HMj.out.bel.size)); clear hb HAL))
                  go_ret
                  exact ⟨rfl, HB6.out⟩
            | true =>
              by_cases hk12 : ka = 1 ∨ ka = 2
              · have hleaf := right_leaf (t := t) (a := a) HRB.out (by rw [← HKA.out]; exact hk12)
                rw [← HLM.out.1] at hleaf
                have hnL : nL = 1 := by rw [HNN.out.1]; exact hleaf.1
                obtain ⟨n0, hn0⟩ : ∃ n0, L[0]? = some n0 := ⟨_, List.getElem?_eq_getElem (by rw [← HNN.out.1]; omega)⟩
                have hk3 : kindV t.k (n0 : Nat) = 3 := by
                  have := hleaf.2
                  rw [List.getD_eq_getElem?_getD, hn0] at this
                  exact this
                obtain ⟨q, qo, qc, ev, _, cn⟩ := HMk.out.rl.at_ hn0
                simp only [Value.slice.injEq] at ev
                obtain ⟨rfl, -, rfl⟩ := ev
                rw [Nat.add_zero] at cn
                subst hnL
                have hcc : wk.rangeAt gx 0 t.cells ∧ wk.cell? ⟨q, qo, none⟩ = some (.int .i64 (n0 : Nat)) := ⟨HMk.out.bx.range, cn⟩
                have HC0 := Lib.hid hcc
                have HK3 := Lib.hid hk3
                clear cn hn0 hleaf hk3
                rcases hk12 with hk | hk
                · have t1 : (ka == (1 : Int)) = true := by rw [hk]; rfl
                  clear hk
                  refine wp_region_tree (S := (fun w' => w'.rangeAt gx 0 t.cells ∧ w'.cell? ⟨q, qo, none⟩ = some (.int .i64 (n0 : Nat)))) (.take 0 (.one 1 (.take 2 (.take 3 (.take 4 (.take 5 (.take 6 (.take 7 (.take 8 (.take 9 (.take 10 (.take 11 (.take 12 (.take 13 (.take 14 (.take 15 (.take 16 (.take 17 (.take 18 (.one 19 (.take 20 (.take 21 (.take 22 .nil))))))))))))))))))))))) 9999 (by kernel_rfl) (by kernel_rfl) (by kernel_rfl) (by kernel_rfl) (by kernel_rfl) (fun _ _ d _ _ h => by cases d <;> exact h) hcc (fun hHeld => ?_); simp only [Tree.map, List.getElem?_toArray, List.getElem?_cons_zero, List.getElem?_cons_succ]
                  (repeat (first | (refine wpTree.take (v := undef) (Or.inr ⟨by rfl, rfl⟩) ?_; simp only [Act.put, List.setIfInBounds_toArray, List.set_cons_zero, List.set_cons_succ]) | (refine wpTree.take (v := .agg t.cells.toArray) (yieldsIf_load_mid rfl 25 _ rfl _ _ rfl t.cells _ (fun _ hS => hS.1) Try.underlying25 rfl (tvinfo t)) ?_; simp only [Act.put, List.setIfInBounds_toArray, List.set_cons_zero, List.set_cons_succ]) | (refine wpTree.take (v := ?_) (Or.inl ⟨by rfl, ?_⟩) ?_; rotate_left; (focus (intro _ hS; (try dsimp only at hS); go_split_ands; (try subst hS); go_simp; (try (with_reducible rfl)); done)); simp only [Act.put, List.setIfInBounds_toArray, List.set_cons_zero, List.set_cons_succ])))
                  clear hcc
                  refine wpTree.one (fun K hK => ?_)
                  go_simp
                  go_at_call 21
                  refine HRT.out.mono ?_
                  rintro e wn ⟨rfl, hb⟩
                  have hbn : Below wk.heap.size wk wn := (Below.refl wk.heap.size wk).drew.trans hb
                  have HMn := Lib.hid (HMk.out.next hbn)
                  have HCn := Lib.hid (And.intro (rng_next HC0.out.1 hbn) (cell_next hbn HC0.out.2))
                  have HK0 := Lib.hid (kind_any wn t (n0 : Nat))
                  rw [HK3.out] at HK0
                  refine hK.out _ _ ⟨rng_next HC0.out.1 hbn, cell_next hbn HC0.out.2⟩ (fun _ => ?_)
                  clear hK K hHeld hb hbn HRT
                  (try simp only [Act.put, List.setIfInBounds_toArray, List.set_cons_zero, List.set_cons_succ])
                  (repeat (first | (refine wpTree.take (v := undef) (Or.inr ⟨by rfl, rfl⟩) ?_; simp only [Act.put, List.setIfInBounds_toArray, List.set_cons_zero, List.set_cons_succ]) | (refine wpTree.take (v := .agg t.cells.toArray) (yieldsIf_load_mid rfl 25 _ rfl _ _ rfl t.cells _ (fun _ hS => hS.1) Try.underlying25 rfl (tvinfo t)) ?_; simp only [Act.put, List.setIfInBounds_toArray, List.set_cons_zero, List.set_cons_succ]) | (refine wpTree.take (v := ?_) (Or.inl ⟨by rfl, ?_⟩) ?_; rotate_left; (focus (intro _ hS; (try dsimp only at hS); go_split_ands; (try subst hS); go_simp; (try (with_reducible rfl)); done)); simp only [Act.put, List.setIfInBounds_toArray, List.set_cons_zero, List.set_cons_succ])))
                  refine wpTree.one (fun K hK => ?_)
                  go_simp
                  go_at_call 24
                  refine HK0.out.mono ?_
                  rintro e wp ⟨rfl, hb⟩
                  have HMp := Lib.hid (HMn.out.next hb)
                  refine hK.out _ _ ⟨rng_next HCn.out.1 hb, cell_next hb HCn.out.2⟩ (fun _ => ?_)
                  clear hK K hb HK0
                  (try simp only [Act.put, List.setIfInBounds_toArray, List.set_cons_zero, List.set_cons_succ])
                  (repeat (first | (refine wpTree.take (v := undef) (Or.inr ⟨by rfl, rfl⟩) ?_; simp only [Act.put, List.setIfInBounds_toArray, List.set_cons_zero, List.set_cons_succ]) | (refine wpTree.take (v := ?_) (Or.inl ⟨by rfl, ?_⟩) ?_; rotate_left; (focus (intro _ hS; (try dsimp only at hS); go_split_ands; (try subst hS); go_simp; (try (with_reducible rfl)); done)); simp only [Act.put, List.setIfInBounds_toArray, List.set_cons_zero, List.set_cons_succ])))
                  refine wpTree.done ?_

                  have hr0 : wp.rangeAt gx 0 t.cells := HMp.out.bx.range
                  have HHO := Lib.hid (homes_any wp t a HA9.out)
                  go_upto_region 19 with (first | (refine load_midg rfl 25 _ rfl _ _ rfl t.cells _ hr0 Try.underlying25 rfl (tvinfo t) ?_; (try simp only [Act.put, List.setIfInBounds_toArray, List.set_cons_zero, List.set_cons_succ])) | (go_at_call 25; refine HHO.out.mono ?_; rintro e wh ⟨vh, rfl, hN, hb⟩; have HMh := Lib.hid (show LM W wh gx t (.slice (some ⟨q, qo, none⟩) 1 cl) L vh (homesL t a) from ⟨HMp.out.bx.next hb, HMp.out.rl.next hb, hN.le HMp.out.bel.size, HMp.out.bel.trans (hb.mono HMp.out.bel.size)⟩); clear hb hN HHO))
                  clear hr0
                  obtain ⟨H, hH⟩ : ∃ H, H = homesL t a := ⟨_, rfl⟩
                  rw [← hH] at HMh
                  have hare := homes_are t a
                  rw [← hH] at hare
                  obtain ⟨Ah, ch, hvh⟩ := HMh.out.rh.shape
                  subst hvh
                  obtain ⟨nH, hnH⟩ : ∃ n, n = H.length := ⟨_, rfl⟩
                  rw [← hnH] at HMh
                  (try rw [← hnH])
                  have HH := Lib.hid (And.intro hnH hare)
                  clear hH hnH hare
                  go_upto_region 20 with fail
                  go_loopw [15] (fun i wy => ∃ j : Nat, j ≤ nH ∧ i = .int .i64 j ∧ LM W wy gx t (.slice (some ⟨q, qo, none⟩) 1 cl) L (.slice Ah nH ch) H) (fun i _ => nH - (intOf i).toNat)
                  case atStart => exact ⟨0, Nat.zero_le _, rfl, HMh.out⟩
                  case round =>
                    clear HMh
                    obtain ⟨j, hj, rfl, hM⟩ := hrel
                    have HMj := Lib.hid hM
                    clear hM
                    by_cases hlt : j < nH
                    · have i1 : (j : Int) < (nH : Nat) := by omega
                      have i2 : ¬ (j : Int) < 0 := by omega
                      obtain ⟨jj, hjj⟩ : ∃ jj, jj = j + 1 := ⟨_, rfl⟩
                      have HW := Lib.hid (wrap_n j jj hjj (by have := HH.out.1; have := HH.out.2.1; omega))
                      have HJ := Lib.hid (And.intro hjj hlt)
                      obtain ⟨n, hn⟩ : ∃ n, H[j]? = some n := ⟨_, List.getElem?_eq_getElem (by rw [← HH.out.1]; exact hlt)⟩
                      obtain ⟨n0, hn0⟩ : ∃ n0, H[0]? = some n0 := ⟨_, List.getElem?_eq_getElem (by rw [← HH.out.1]; omega)⟩
                      obtain ⟨q, qo, qc, ev, _, cm⟩ := HMj.out.rh.at_ hn
                      obtain ⟨q', qo', qc', ev', _, cm0⟩ := HMj.out.rh.at_ hn0
                      simp only [Value.slice.injEq] at ev ev'
                      obtain ⟨rfl, -, rfl⟩ := ev
                      obtain ⟨ev', -, -⟩ := ev'
                      simp only [Option.some.injEq, Addr.mk.injEq, and_true] at ev'
                      obtain ⟨rfl, rfl⟩ := ev'
                      rw [Nat.add_zero] at cm0
                      have hk1 := HH.out.2.2.1 n (List.mem_of_getElem? hn)
                      have HKN := Lib.hid (show Calls Try.prog 24 #[.agg t.cells.toArray, .int .i64 (n : Nat)] wr.drew fun e W' => e = .returned (.int .i64 1) ∧ Below wr.drew.heap.size wr.drew W' by rw [← hk1]; exact kind_any wr.drew t (n : Nat))
                      have hcc : wr.rangeAt gx 0 t.cells ∧ wr.cell? ⟨q, qo + j, none⟩ = some (.int .i64 (n : Nat)) ∧ wr.cell? ⟨q, qo, none⟩ = some (.int .i64 (n0 : Nat)) := ⟨HMj.out.bx.range, cm, cm0⟩
                      have HCC := Lib.hid hcc
                      have n2 : 0 < nH := by omega
                      have n3 : (0 : Int) < (nH : Nat) := by omega
                      by_cases hj0 : j = 0
                      · have i3 : ¬ (0 : Int) < ((j : Nat) : Int) := by omega
                        have i5 : ¬ 0 < j := by omega
                        have i6 : decide (0 < j) = false := by simpa using i5
                        clear hj hlt hjj hn hn0 cm cm0 hk1 hj0
                        go_upto_region 22 with fail
                        refine wp_region_tree (S := (fun w' => w'.rangeAt gx 0 t.cells ∧ w'.cell? ⟨q, qo + j, none⟩ = some (.int .i64 (n : Nat)) ∧ w'.cell? ⟨q, qo, none⟩ = some (.int .i64 (n0 : Nat)))) (.take 0 (.take 1 (.take 2 (.take 3 (.take 4 (.one 5 (.take 6 (.take 7 (.take 8 (.take 9 (.take 10 (.take 11 (.take 12 (.take 13 (.take 14 (.take 15 (.take 16 (.take 17 (.take 18 (.take 19 (.take 20 .nil))))))))))))))))))))) 9999 (by kernel_rfl) (by kernel_rfl) (by kernel_rfl) (by kernel_rfl) (by kernel_rfl) (fun _ _ d _ _ h => by cases d <;> exact h) hcc (fun hHeld => ?_); simp only [Tree.map, List.getElem?_toArray, List.getElem?_cons_zero, List.getElem?_cons_succ]
                        (repeat (first | (refine wpTree.take (v := undef) (Or.inr ⟨by rfl, rfl⟩) ?_; simp only [Act.put, List.setIfInBounds_toArray, List.set_cons_zero, List.set_cons_succ]) | (refine wpTree.take (v := .agg t.cells.toArray) (yieldsIf_load_mid rfl 25 _ rfl _ _ rfl t.cells _ (fun _ hS => hS.1) Try.underlying25 rfl (tvinfo t)) ?_; simp only [Act.put, List.setIfInBounds_toArray, List.set_cons_zero, List.set_cons_succ]) | (refine wpTree.take (v := ?_) (Or.inl ⟨by rfl, ?_⟩) ?_; rotate_left; (focus (intro _ hS; (try dsimp only at hS); go_split_ands; (try subst hS); go_simp; (try (with_reducible rfl)); done)); simp only [Act.put, List.setIfInBounds_toArray, List.set_cons_zero, List.set_cons_succ])))
                        clear hcc
                        refine wpTree.one (fun K hK => ?_)
                        go_simp
                        go_at_call 24
                        refine HKN.out.mono ?_
                        rintro e w8 ⟨rfl, hb⟩
                        have hb8 : Below wr.heap.size wr w8 := (Below.refl wr.heap.size wr).drew.trans hb
                        have HM8 := Lib.hid (HMj.out.next hb8)
                        refine hK.out _ _ ⟨rng_next HCC.out.1 hb8, cell_next hb8 HCC.out.2.1, cell_next hb8 HCC.out.2.2⟩ (fun _ => ?_)
                        clear hK K hHeld hb hb8 HKN
                        (try simp only [Act.put, List.setIfInBounds_toArray, List.set_cons_zero, List.set_cons_succ])
                        (repeat (first | (refine wpTree.take (v := undef) (Or.inr ⟨by rfl, rfl⟩) ?_; simp only [Act.put, List.setIfInBounds_toArray, List.set_cons_zero, List.set_cons_succ]) | (refine wpTree.take (v := ?_) (Or.inl ⟨by rfl, ?_⟩) ?_; rotate_left; (focus (intro _ hS; (try dsimp only at hS); go_split_ands; (try subst hS); go_simp; (try (with_reducible rfl)); done)); simp only [Act.put, List.setIfInBounds_toArray, List.set_cons_zero, List.set_cons_succ])))
                        refine wpTree.done ?_
                        go_wp2_with fail
                        (try rw [HW.out])
                        go_roundw
                        case rel => exact ⟨jj, by have := HJ.out; omega, by first | rfl | simp [HJ.out.1], HM8.out⟩
                        case measure => have := HJ.out; simp [intOf]; omega
                      · have hj1 : j = 1 := by have := HH.out.1; have := HH.out.2.1; omega
                        have hne : n0 ≠ n := by
                          subst hj1
                          exact HH.out.2.2.2 n0 n hn0 hn
                        have i3 : (0 : Int) < ((j : Nat) : Int) := by omega
                        have i5 : 0 < j := by omega
                        have i6 : decide (0 < j) = true := by simpa using i5
                        have t3 : (((n : Nat) : Int) == ((n0 : Nat) : Int)) = false := by simpa using (show ¬ ((n : Nat) : Int) = ((n0 : Nat) : Int) by omega)
                        clear hj hlt hjj hn hn0 cm cm0 hk1 hj0 hj1 hne
                        go_upto_region 22 with fail
                        refine wp_region_tree (S := (fun w' => w'.rangeAt gx 0 t.cells ∧ w'.cell? ⟨q, qo + j, none⟩ = some (.int .i64 (n : Nat)) ∧ w'.cell? ⟨q, qo, none⟩ = some (.int .i64 (n0 : Nat)))) (.take 0 (.take 1 (.take 2 (.take 3 (.take 4 (.one 5 (.take 6 (.take 7 (.take 8 (.take 9 (.take 10 (.take 11 (.take 12 (.take 13 (.take 14 (.take 15 (.take 16 (.take 17 (.take 18 (.take 19 (.take 20 .nil))))))))))))))))))))) 9999 (by kernel_rfl) (by kernel_rfl) (by kernel_rfl) (by kernel_rfl) (by kernel_rfl) (fun _ _ d _ _ h => by cases d <;> exact h) hcc (fun hHeld => ?_); simp only [Tree.map, List.getElem?_toArray, List.getElem?_cons_zero, List.getElem?_cons_succ]
                        (repeat (first | (refine wpTree.take (v := undef) (Or.inr ⟨by rfl, rfl⟩) ?_; simp only [Act.put, List.setIfInBounds_toArray, List.set_cons_zero, List.set_cons_succ]) | (refine wpTree.take (v := .agg t.cells.toArray) (yieldsIf_load_mid rfl 25 _ rfl _ _ rfl t.cells _ (fun _ hS => hS.1) Try.underlying25 rfl (tvinfo t)) ?_; simp only [Act.put, List.setIfInBounds_toArray, List.set_cons_zero, List.set_cons_succ]) | (refine wpTree.take (v := ?_) (Or.inl ⟨by rfl, ?_⟩) ?_; rotate_left; (focus (intro _ hS; (try dsimp only at hS); go_split_ands; (try subst hS); go_simp; (try (with_reducible rfl)); done)); simp only [Act.put, List.setIfInBounds_toArray, List.set_cons_zero, List.set_cons_succ])))
                        clear hcc
                        refine wpTree.one (fun K hK => ?_)
                        go_simp
                        go_at_call 24
                        refine HKN.out.mono ?_
                        rintro e w8 ⟨rfl, hb⟩
                        have hb8 : Below wr.heap.size wr w8 := (Below.refl wr.heap.size wr).drew.trans hb
                        have HM8 := Lib.hid (HMj.out.next hb8)
                        refine hK.out _ _ ⟨rng_next HCC.out.1 hb8, cell_next hb8 HCC.out.2.1, cell_next hb8 HCC.out.2.2⟩ (fun _ => ?_)
                        clear hK K hHeld hb hb8 HKN
                        (try simp only [Act.put, List.setIfInBounds_toArray, List.set_cons_zero, List.set_cons_succ])
                        (repeat (first | (refine wpTree.take (v := undef) (Or.inr ⟨by rfl, rfl⟩) ?_; simp only [Act.put, List.setIfInBounds_toArray, List.set_cons_zero, List.set_cons_succ]) | (refine wpTree.take (v := ?_) (Or.inl ⟨by rfl, ?_⟩) ?_; rotate_left; (focus (intro _ hS; (try dsimp only at hS); go_split_ands; (try subst hS); go_simp; (try (with_reducible rfl)); done)); simp only [Act.put, List.setIfInBounds_toArray, List.set_cons_zero, List.set_cons_succ])))
                        refine wpTree.done ?_
                        go_wp2_with fail
                        rw [HW.out]
                        go_roundw
                        case rel => exact ⟨jj, by have := HJ.out; omega, rfl, HM8.out⟩
                        case measure => have := HJ.out; simp [intOf]; omega
                    · have i1 : ¬ (j : Int) < (nH : Nat) := by omega
                      clear hj hlt
                      have HAL := Lib.hid (alive18_any wr)
                      have i4 : (nH : Int) ≤ 2 := by have := HH.out.1; have := HH.out.2.1; omega
                      have i5 : ¬ (2 : Int) < (nH : Int) := by omega
                      go_wp2_with ((go_at_call 12; refine HAL.out.mono ?_; rintro e w6 ⟨rfl, hb⟩; have HB6 := Lib.hid (HMj.out.bel.trans (hb.mono HMj.out.bel.size)); clear hb HAL))
                      go_ret
                      exact ⟨rfl, HB6.out⟩
                · have t1 : (ka == (1 : Int)) = false := by rw [hk]; rfl
                  have t2 : (ka == (2 : Int)) = true := by rw [hk]; rfl
                  clear hk
                  refine wp_region_tree (S := (fun w' => w'.rangeAt gx 0 t.cells ∧ w'.cell? ⟨q, qo, none⟩ = some (.int .i64 (n0 : Nat)))) (.take 0 (.one 1 (.take 2 (.take 3 (.take 4 (.take 5 (.take 6 (.take 7 (.take 8 (.take 9 (.take 10 (.take 11 (.take 12 (.take 13 (.take 14 (.take 15 (.take 16 (.take 17 (.take 18 (.one 19 (.take 20 (.take 21 (.take 22 .nil))))))))))))))))))))))) 9999 (by kernel_rfl) (by kernel_rfl) (by kernel_rfl) (by kernel_rfl) (by kernel_rfl) (fun _ _ d _ _ h => by cases d <;> exact h) hcc (fun hHeld => ?_); simp only [Tree.map, List.getElem?_toArray, List.getElem?_cons_zero, List.getElem?_cons_succ]
                  (repeat (first | (refine wpTree.take (v := undef) (Or.inr ⟨by rfl, rfl⟩) ?_; simp only [Act.put, List.setIfInBounds_toArray, List.set_cons_zero, List.set_cons_succ]) | (refine wpTree.take (v := .agg t.cells.toArray) (yieldsIf_load_mid rfl 25 _ rfl _ _ rfl t.cells _ (fun _ hS => hS.1) Try.underlying25 rfl (tvinfo t)) ?_; simp only [Act.put, List.setIfInBounds_toArray, List.set_cons_zero, List.set_cons_succ]) | (refine wpTree.take (v := ?_) (Or.inl ⟨by rfl, ?_⟩) ?_; rotate_left; (focus (intro _ hS; (try dsimp only at hS); go_split_ands; (try subst hS); go_simp; (try (with_reducible rfl)); done)); simp only [Act.put, List.setIfInBounds_toArray, List.set_cons_zero, List.set_cons_succ])))
                  clear hcc
                  refine wpTree.one (fun K hK => ?_)
                  go_simp
                  go_at_call 21
                  refine HRT.out.mono ?_
                  rintro e wn ⟨rfl, hb⟩
                  have hbn : Below wk.heap.size wk wn := (Below.refl wk.heap.size wk).drew.trans hb
                  have HMn := Lib.hid (HMk.out.next hbn)
                  have HCn := Lib.hid (And.intro (rng_next HC0.out.1 hbn) (cell_next hbn HC0.out.2))
                  have HK0 := Lib.hid (kind_any wn t (n0 : Nat))
                  rw [HK3.out] at HK0
                  refine hK.out _ _ ⟨rng_next HC0.out.1 hbn, cell_next hbn HC0.out.2⟩ (fun _ => ?_)
                  clear hK K hHeld hb hbn HRT
                  (try simp only [Act.put, List.setIfInBounds_toArray, List.set_cons_zero, List.set_cons_succ])
                  (repeat (first | (refine wpTree.take (v := undef) (Or.inr ⟨by rfl, rfl⟩) ?_; simp only [Act.put, List.setIfInBounds_toArray, List.set_cons_zero, List.set_cons_succ]) | (refine wpTree.take (v := .agg t.cells.toArray) (yieldsIf_load_mid rfl 25 _ rfl _ _ rfl t.cells _ (fun _ hS => hS.1) Try.underlying25 rfl (tvinfo t)) ?_; simp only [Act.put, List.setIfInBounds_toArray, List.set_cons_zero, List.set_cons_succ]) | (refine wpTree.take (v := ?_) (Or.inl ⟨by rfl, ?_⟩) ?_; rotate_left; (focus (intro _ hS; (try dsimp only at hS); go_split_ands; (try subst hS); go_simp; (try (with_reducible rfl)); done)); simp only [Act.put, List.setIfInBounds_toArray, List.set_cons_zero, List.set_cons_succ])))
                  refine wpTree.one (fun K hK => ?_)
                  go_simp
                  go_at_call 24
                  refine HK0.out.mono ?_
                  rintro e wp ⟨rfl, hb⟩
                  have HMp := Lib.hid (HMn.out.next hb)
                  refine hK.out _ _ ⟨rng_next HCn.out.1 hb, cell_next hb HCn.out.2⟩ (fun _ => ?_)
                  clear hK K hb HK0
                  (try simp only [Act.put, List.setIfInBounds_toArray, List.set_cons_zero, List.set_cons_succ])
                  (repeat (first | (refine wpTree.take (v := undef) (Or.inr ⟨by rfl, rfl⟩) ?_; simp only [Act.put, List.setIfInBounds_toArray, List.set_cons_zero, List.set_cons_succ]) | (refine wpTree.take (v := ?_) (Or.inl ⟨by rfl, ?_⟩) ?_; rotate_left; (focus (intro _ hS; (try dsimp only at hS); go_split_ands; (try subst hS); go_simp; (try (with_reducible rfl)); done)); simp only [Act.put, List.setIfInBounds_toArray, List.set_cons_zero, List.set_cons_succ])))
                  refine wpTree.done ?_

                  have hr0 : wp.rangeAt gx 0 t.cells := HMp.out.bx.range
                  have HHO := Lib.hid (homes_any wp t a HA9.out)
                  go_upto_region 19 with (first | (refine load_midg rfl 25 _ rfl _ _ rfl t.cells _ hr0 Try.underlying25 rfl (tvinfo t) ?_; (try simp only [Act.put, List.setIfInBounds_toArray, List.set_cons_zero, List.set_cons_succ])) | (go_at_call 25; refine HHO.out.mono ?_; rintro e wh ⟨vh, rfl, hN, hb⟩; have HMh := Lib.hid (show LM W wh gx t (.slice (some ⟨q, qo, none⟩) 1 cl) L vh (homesL t a) from ⟨HMp.out.bx.next hb, HMp.out.rl.next hb, hN.le HMp.out.bel.size, HMp.out.bel.trans (hb.mono HMp.out.bel.size)⟩); clear hb hN HHO))
                  clear hr0
                  obtain ⟨H, hH⟩ : ∃ H, H = homesL t a := ⟨_, rfl⟩
                  rw [← hH] at HMh
                  have hare := homes_are t a
                  rw [← hH] at hare
                  obtain ⟨Ah, ch, hvh⟩ := HMh.out.rh.shape
                  subst hvh
                  obtain ⟨nH, hnH⟩ : ∃ n, n = H.length := ⟨_, rfl⟩
                  rw [← hnH] at HMh
                  (try rw [← hnH])
                  have HH := Lib.hid (And.intro hnH hare)
                  clear hH hnH hare
                  go_upto_region 20 with fail
                  go_loopw [15] (fun i wy => ∃ j : Nat, j ≤ nH ∧ i = .int .i64 j ∧ LM W wy gx t (.slice (some ⟨q, qo, none⟩) 1 cl) L (.slice Ah nH ch) H) (fun i _ => nH - (intOf i).toNat)
                  case atStart => exact ⟨0, Nat.zero_le _, rfl, HMh.out⟩
                  case round =>
                    clear HMh
                    obtain ⟨j, hj, rfl, hM⟩ := hrel
                    have HMj := Lib.hid hM
                    clear hM
                    by_cases hlt : j < nH
                    · have i1 : (j : Int) < (nH : Nat) := by omega
                      have i2 : ¬ (j : Int) < 0 := by omega
                      obtain ⟨jj, hjj⟩ : ∃ jj, jj = j + 1 := ⟨_, rfl⟩
                      have HW := Lib.hid (wrap_n j jj hjj (by have := HH.out.1; have := HH.out.2.1; omega))
                      have HJ := Lib.hid (And.intro hjj hlt)
                      obtain ⟨n, hn⟩ : ∃ n, H[j]? = some n := ⟨_, List.getElem?_eq_getElem (by rw [← HH.out.1]; exact hlt)⟩
                      obtain ⟨n0, hn0⟩ : ∃ n0, H[0]? = some n0 := ⟨_, List.getElem?_eq_getElem (by rw [← HH.out.1]; omega)⟩
                      obtain ⟨q, qo, qc, ev, _, cm⟩ := HMj.out.rh.at_ hn
                      obtain ⟨q', qo', qc', ev', _, cm0⟩ := HMj.out.rh.at_ hn0
                      simp only [Value.slice.injEq] at ev ev'
                      obtain ⟨rfl, -, rfl⟩ := ev
                      obtain ⟨ev', -, -⟩ := ev'
                      simp only [Option.some.injEq, Addr.mk.injEq, and_true] at ev'
                      obtain ⟨rfl, rfl⟩ := ev'
                      rw [Nat.add_zero] at cm0
                      have hk1 := HH.out.2.2.1 n (List.mem_of_getElem? hn)
                      have HKN := Lib.hid (show Calls Try.prog 24 #[.agg t.cells.toArray, .int .i64 (n : Nat)] wr.drew fun e W' => e = .returned (.int .i64 1) ∧ Below wr.drew.heap.size wr.drew W' by rw [← hk1]; exact kind_any wr.drew t (n : Nat))
                      have hcc : wr.rangeAt gx 0 t.cells ∧ wr.cell? ⟨q, qo + j, none⟩ = some (.int .i64 (n : Nat)) ∧ wr.cell? ⟨q, qo, none⟩ = some (.int .i64 (n0 : Nat)) := ⟨HMj.out.bx.range, cm, cm0⟩
                      have HCC := Lib.hid hcc
                      have n2 : 0 < nH := by omega
                      have n3 : (0 : Int) < (nH : Nat) := by omega
                      by_cases hj0 : j = 0
                      · have i3 : ¬ (0 : Int) < ((j : Nat) : Int) := by omega
                        have i5 : ¬ 0 < j := by omega
                        have i6 : decide (0 < j) = false := by simpa using i5
                        clear hj hlt hjj hn hn0 cm cm0 hk1 hj0
                        go_upto_region 22 with fail
                        refine wp_region_tree (S := (fun w' => w'.rangeAt gx 0 t.cells ∧ w'.cell? ⟨q, qo + j, none⟩ = some (.int .i64 (n : Nat)) ∧ w'.cell? ⟨q, qo, none⟩ = some (.int .i64 (n0 : Nat)))) (.take 0 (.take 1 (.take 2 (.take 3 (.take 4 (.one 5 (.take 6 (.take 7 (.take 8 (.take 9 (.take 10 (.take 11 (.take 12 (.take 13 (.take 14 (.take 15 (.take 16 (.take 17 (.take 18 (.take 19 (.take 20 .nil))))))))))))))))))))) 9999 (by kernel_rfl) (by kernel_rfl) (by kernel_rfl) (by kernel_rfl) (by kernel_rfl) (fun _ _ d _ _ h => by cases d <;> exact h) hcc (fun hHeld => ?_); simp only [Tree.map, List.getElem?_toArray, List.getElem?_cons_zero, List.getElem?_cons_succ]
                        (repeat (first | (refine wpTree.take (v := undef) (Or.inr ⟨by rfl, rfl⟩) ?_; simp only [Act.put, List.setIfInBounds_toArray, List.set_cons_zero, List.set_cons_succ]) | (refine wpTree.take (v := .agg t.cells.toArray) (yieldsIf_load_mid rfl 25 _ rfl _ _ rfl t.cells _ (fun _ hS => hS.1) Try.underlying25 rfl (tvinfo t)) ?_; simp only [Act.put, List.setIfInBounds_toArray, List.set_cons_zero, List.set_cons_succ]) | (refine wpTree.take (v := ?_) (Or.inl ⟨by rfl, ?_⟩) ?_; rotate_left; (focus (intro _ hS; (try dsimp only at hS); go_split_ands; (try subst hS); go_simp; (try (with_reducible rfl)); done)); simp only [Act.put, List.setIfInBounds_toArray, List.set_cons_zero, List.set_cons_succ])))
                        clear hcc
                        refine wpTree.one (fun K hK => ?_)
                        go_simp
                        go_at_call 24
                        refine HKN.out.mono ?_
                        rintro e w8 ⟨rfl, hb⟩
                        have hb8 : Below wr.heap.size wr w8 := (Below.refl wr.heap.size wr).drew.trans hb
                        have HM8 := Lib.hid (HMj.out.next hb8)
                        refine hK.out _ _ ⟨rng_next HCC.out.1 hb8, cell_next hb8 HCC.out.2.1, cell_next hb8 HCC.out.2.2⟩ (fun _ => ?_)
                        clear hK K hHeld hb hb8 HKN
                        (try simp only [Act.put, List.setIfInBounds_toArray, List.set_cons_zero, List.set_cons_succ])
                        (repeat (first | (refine wpTree.take (v := undef) (Or.inr ⟨by rfl, rfl⟩) ?_; simp only [Act.put, List.setIfInBounds_toArray, List.set_cons_zero, List.set_cons_succ]) | (refine wpTree.take (v := ?_) (Or.inl ⟨by rfl, ?_⟩) ?_; rotate_left; (focus (intro _ hS; (try dsimp only at hS); go_split_ands; (try subst hS); go_simp; (try (with_reducible rfl)); done)); simp only [Act.put, List.setIfInBounds_toArray, List.set_cons_zero, List.set_cons_succ])))
                        refine wpTree.done ?_
                        go_wp2_with fail
                        (try rw [HW.out])
                        go_roundw
                        case rel => exact ⟨jj, by have := HJ.out; omega, by first | rfl | simp [HJ.out.1], HM8.out⟩
                        case measure => have := HJ.out; simp [intOf]; omega
                      · have hj1 : j = 1 := by have := HH.out.1; have := HH.out.2.1; omega
                        have hne : n0 ≠ n := by
                          subst hj1
                          exact HH.out.2.2.2 n0 n hn0 hn
                        have i3 : (0 : Int) < ((j : Nat) : Int) := by omega
                        have i5 : 0 < j := by omega
                        have i6 : decide (0 < j) = true := by simpa using i5
                        have t3 : (((n : Nat) : Int) == ((n0 : Nat) : Int)) = false := by simpa using (show ¬ ((n : Nat) : Int) = ((n0 : Nat) : Int) by omega)
                        clear hj hlt hjj hn hn0 cm cm0 hk1 hj0 hj1 hne
                        go_upto_region 22 with fail
                        refine wp_region_tree (S := (fun w' => w'.rangeAt gx 0 t.cells ∧ w'.cell? ⟨q, qo + j, none⟩ = some (.int .i64 (n : Nat)) ∧ w'.cell? ⟨q, qo, none⟩ = some (.int .i64 (n0 : Nat)))) (.take 0 (.take 1 (.take 2 (.take 3 (.take 4 (.one 5 (.take 6 (.take 7 (.take 8 (.take 9 (.take 10 (.take 11 (.take 12 (.take 13 (.take 14 (.take 15 (.take 16 (.take 17 (.take 18 (.take 19 (.take 20 .nil))))))))))))))))))))) 9999 (by kernel_rfl) (by kernel_rfl) (by kernel_rfl) (by kernel_rfl) (by kernel_rfl) (fun _ _ d _ _ h => by cases d <;> exact h) hcc (fun hHeld => ?_); simp only [Tree.map, List.getElem?_toArray, List.getElem?_cons_zero, List.getElem?_cons_succ]
                        (repeat (first | (refine wpTree.take (v := undef) (Or.inr ⟨by rfl, rfl⟩) ?_; simp only [Act.put, List.setIfInBounds_toArray, List.set_cons_zero, List.set_cons_succ]) | (refine wpTree.take (v := .agg t.cells.toArray) (yieldsIf_load_mid rfl 25 _ rfl _ _ rfl t.cells _ (fun _ hS => hS.1) Try.underlying25 rfl (tvinfo t)) ?_; simp only [Act.put, List.setIfInBounds_toArray, List.set_cons_zero, List.set_cons_succ]) | (refine wpTree.take (v := ?_) (Or.inl ⟨by rfl, ?_⟩) ?_; rotate_left; (focus (intro _ hS; (try dsimp only at hS); go_split_ands; (try subst hS); go_simp; (try (with_reducible rfl)); done)); simp only [Act.put, List.setIfInBounds_toArray, List.set_cons_zero, List.set_cons_succ])))
                        clear hcc
                        refine wpTree.one (fun K hK => ?_)
                        go_simp
                        go_at_call 24
                        refine HKN.out.mono ?_
                        rintro e w8 ⟨rfl, hb⟩
                        have hb8 : Below wr.heap.size wr w8 := (Below.refl wr.heap.size wr).drew.trans hb
                        have HM8 := Lib.hid (HMj.out.next hb8)
                        refine hK.out _ _ ⟨rng_next HCC.out.1 hb8, cell_next hb8 HCC.out.2.1, cell_next hb8 HCC.out.2.2⟩ (fun _ => ?_)
                        clear hK K hHeld hb hb8 HKN
                        (try simp only [Act.put, List.setIfInBounds_toArray, List.set_cons_zero, List.set_cons_succ])
                        (repeat (first | (refine wpTree.take (v := undef) (Or.inr ⟨by rfl, rfl⟩) ?_; simp only [Act.put, List.setIfInBounds_toArray, List.set_cons_zero, List.set_cons_succ]) | (refine wpTree.take (v := ?_) (Or.inl ⟨by rfl, ?_⟩) ?_; rotate_left; (focus (intro _ hS; (try dsimp only at hS); go_split_ands; (try subst hS); go_simp; (try (with_reducible rfl)); done)); simp only [Act.put, List.setIfInBounds_toArray, List.set_cons_zero, List.set_cons_succ])))
                        refine wpTree.done ?_
                        go_wp2_with fail
                        rw [HW.out]
                        go_roundw
                        case rel => exact ⟨jj, by have := HJ.out; omega, rfl, HM8.out⟩
                        case measure => have := HJ.out; simp [intOf]; omega
                    · have i1 : ¬ (j : Int) < (nH : Nat) := by omega
                      clear hj hlt
                      have HAL := Lib.hid (alive18_any wr)
                      have i4 : (nH : Int) ≤ 2 := by have := HH.out.1; have := HH.out.2.1; omega
                      have i5 : ¬ (2 : Int) < (nH : Int) := by omega
                      go_wp2_with ((go_at_call 12; refine HAL.out.mono ?_; rintro e w6 ⟨rfl, hb⟩; have HB6 := Lib.hid (HMj.out.bel.trans (hb.mono HMj.out.bel.size)); clear hb HAL))
                      go_ret
                      exact ⟨rfl, HB6.out⟩
              · have t1 : (ka == (1 : Int)) = false := by simpa using (fun h => hk12 (.inl h))
                have t2 : (ka == (2 : Int)) = false := by simpa using (fun h => hk12 (.inr h))
                clear hk12
                refine wp_region_tree (S := (fun w' => w'.rangeAt gx 0 t.cells ∧ True)) (.take 0 (.one 1 (.take 2 (.take 3 (.take 4 (.take 5 (.take 6 (.take 7 (.take 8 (.take 9 (.take 10 (.take 11 (.take 12 (.take 13 (.take 14 (.take 15 (.take 16 (.take 17 (.take 18 (.take 19 (.take 20 (.take 21 (.take 22 .nil))))))))))))))))))))))) 9999 (by kernel_rfl) (by kernel_rfl) (by kernel_rfl) (by kernel_rfl) (by kernel_rfl) (fun _ _ d _ _ h => by cases d <;> exact h) hcc (fun hHeld => ?_); simp only [Tree.map, List.getElem?_toArray, List.getElem?_cons_zero, List.getElem?_cons_succ]
                (repeat (first | (refine wpTree.take (v := undef) (Or.inr ⟨by rfl, rfl⟩) ?_; simp only [Act.put, List.setIfInBounds_toArray, List.set_cons_zero, List.set_cons_succ]) | (refine wpTree.take (v := .agg t.cells.toArray) (yieldsIf_load_mid rfl 25 _ rfl _ _ rfl t.cells _ (fun _ hS => hS.1) Try.underlying25 rfl (tvinfo t)) ?_; simp only [Act.put, List.setIfInBounds_toArray, List.set_cons_zero, List.set_cons_succ]) | (refine wpTree.take (v := ?_) (Or.inl ⟨by rfl, ?_⟩) ?_; rotate_left; (focus (intro _ hS; (try dsimp only at hS); go_split_ands; (try subst hS); go_simp; (try (with_reducible rfl)); done)); simp only [Act.put, List.setIfInBounds_toArray, List.set_cons_zero, List.set_cons_succ])))
                clear hcc
                refine wpTree.one (fun K hK => ?_)
                go_simp
                go_at_call 21
                refine HRT.out.mono ?_
                rintro e wn ⟨rfl, hb⟩
                have hbn : Below wk.heap.size wk wn := (Below.refl wk.heap.size wk).drew.trans hb
                have HMn := Lib.hid (HMk.out.next hbn)
                refine hK.out _ _ ⟨HMn.out.bx.range, trivial⟩ (fun _ => ?_)
                clear hK K hHeld hb hbn HRT
                (try simp only [Act.put, List.setIfInBounds_toArray, List.set_cons_zero, List.set_cons_succ])
                (repeat (first | (refine wpTree.take (v := undef) (Or.inr ⟨by rfl, rfl⟩) ?_; simp only [Act.put, List.setIfInBounds_toArray, List.set_cons_zero, List.set_cons_succ]) | (refine wpTree.take (v := .agg t.cells.toArray) (yieldsIf_load_mid rfl 25 _ rfl _ _ rfl t.cells _ (fun _ hS => hS.1) Try.underlying25 rfl (tvinfo t)) ?_; simp only [Act.put, List.setIfInBounds_toArray, List.set_cons_zero, List.set_cons_succ]) | (refine wpTree.take (v := ?_) (Or.inl ⟨by rfl, ?_⟩) ?_; rotate_left; (focus (intro _ hS; (try dsimp only at hS); go_split_ands; (try subst hS); go_simp; (try (with_reducible rfl)); done)); simp only [Act.put, List.setIfInBounds_toArray, List.set_cons_zero, List.set_cons_succ])))
                refine wpTree.done ?_

                have hr0 : wn.rangeAt gx 0 t.cells := HMn.out.bx.range
                have HHO := Lib.hid (homes_any wn t a HA9.out)
                go_upto_region 19 with (first | (refine load_midg rfl 25 _ rfl _ _ rfl t.cells _ hr0 Try.underlying25 rfl (tvinfo t) ?_; (try simp only [Act.put, List.setIfInBounds_toArray, List.set_cons_zero, List.set_cons_succ])) | (go_at_call 25; refine HHO.out.mono ?_; rintro e wh ⟨vh, rfl, hN, hb⟩; have HMh := Lib.hid (show LM W wh gx t (.slice Al nL cl) L vh (homesL t a) from ⟨HMn.out.bx.next hb, HMn.out.rl.next hb, hN.le HMn.out.bel.size, HMn.out.bel.trans (hb.mono HMn.out.bel.size)⟩); clear hb hN HHO))
                clear hr0
                obtain ⟨H, hH⟩ : ∃ H, H = homesL t a := ⟨_, rfl⟩
                rw [← hH] at HMh
                have hare := homes_are t a
                rw [← hH] at hare
                obtain ⟨Ah, ch, hvh⟩ := HMh.out.rh.shape
                subst hvh
                obtain ⟨nH, hnH⟩ : ∃ n, n = H.length := ⟨_, rfl⟩
                rw [← hnH] at HMh
                (try rw [← hnH])
                have HH := Lib.hid (And.intro hnH hare)
                clear hH hnH hare
                go_upto_region 20 with fail
                go_loopw [15] (fun i wy => ∃ j : Nat, j ≤ nH ∧ i = .int .i64 j ∧ LM W wy gx t (.slice Al nL cl) L (.slice Ah nH ch) H) (fun i _ => nH - (intOf i).toNat)
                case atStart => exact ⟨0, Nat.zero_le _, rfl, HMh.out⟩
                case round =>
                  clear HMh
                  obtain ⟨j, hj, rfl, hM⟩ := hrel
                  have HMj := Lib.hid hM
                  clear hM
                  by_cases hlt : j < nH
                  · have i1 : (j : Int) < (nH : Nat) := by omega
                    have i2 : ¬ (j : Int) < 0 := by omega
                    obtain ⟨jj, hjj⟩ : ∃ jj, jj = j + 1 := ⟨_, rfl⟩
                    have HW := Lib.hid (wrap_n j jj hjj (by have := HH.out.1; have := HH.out.2.1; omega))
                    have HJ := Lib.hid (And.intro hjj hlt)
                    obtain ⟨n, hn⟩ : ∃ n, H[j]? = some n := ⟨_, List.getElem?_eq_getElem (by rw [← HH.out.1]; exact hlt)⟩
                    obtain ⟨n0, hn0⟩ : ∃ n0, H[0]? = some n0 := ⟨_, List.getElem?_eq_getElem (by rw [← HH.out.1]; omega)⟩
                    obtain ⟨q, qo, qc, ev, _, cm⟩ := HMj.out.rh.at_ hn
                    obtain ⟨q', qo', qc', ev', _, cm0⟩ := HMj.out.rh.at_ hn0
                    simp only [Value.slice.injEq] at ev ev'
                    obtain ⟨rfl, -, rfl⟩ := ev
                    obtain ⟨ev', -, -⟩ := ev'
                    simp only [Option.some.injEq, Addr.mk.injEq, and_true] at ev'
                    obtain ⟨rfl, rfl⟩ := ev'
                    rw [Nat.add_zero] at cm0
                    have hk1 := HH.out.2.2.1 n (List.mem_of_getElem? hn)
                    have HKN := Lib.hid (show Calls Try.prog 24 #[.agg t.cells.toArray, .int .i64 (n : Nat)] wr.drew fun e W' => e = .returned (.int .i64 1) ∧ Below wr.drew.heap.size wr.drew W' by rw [← hk1]; exact kind_any wr.drew t (n : Nat))
                    have hcc : wr.rangeAt gx 0 t.cells ∧ wr.cell? ⟨q, qo + j, none⟩ = some (.int .i64 (n : Nat)) ∧ wr.cell? ⟨q, qo, none⟩ = some (.int .i64 (n0 : Nat)) := ⟨HMj.out.bx.range, cm, cm0⟩
                    have HCC := Lib.hid hcc
                    have n2 : 0 < nH := by omega
                    have n3 : (0 : Int) < (nH : Nat) := by omega
                    by_cases hj0 : j = 0
                    · have i3 : ¬ (0 : Int) < ((j : Nat) : Int) := by omega
                      have i5 : ¬ 0 < j := by omega
                      have i6 : decide (0 < j) = false := by simpa using i5
                      clear hj hlt hjj hn hn0 cm cm0 hk1 hj0
                      go_upto_region 22 with fail
                      refine wp_region_tree (S := (fun w' => w'.rangeAt gx 0 t.cells ∧ w'.cell? ⟨q, qo + j, none⟩ = some (.int .i64 (n : Nat)) ∧ w'.cell? ⟨q, qo, none⟩ = some (.int .i64 (n0 : Nat)))) (.take 0 (.take 1 (.take 2 (.take 3 (.take 4 (.one 5 (.take 6 (.take 7 (.take 8 (.take 9 (.take 10 (.take 11 (.take 12 (.take 13 (.take 14 (.take 15 (.take 16 (.take 17 (.take 18 (.take 19 (.take 20 .nil))))))))))))))))))))) 9999 (by kernel_rfl) (by kernel_rfl) (by kernel_rfl) (by kernel_rfl) (by kernel_rfl) (fun _ _ d _ _ h => by cases d <;> exact h) hcc (fun hHeld => ?_); simp only [Tree.map, List.getElem?_toArray, List.getElem?_cons_zero, List.getElem?_cons_succ]
                      (repeat (first | (refine wpTree.take (v := undef) (Or.inr ⟨by rfl, rfl⟩) ?_; simp only [Act.put, List.setIfInBounds_toArray, List.set_cons_zero, List.set_cons_succ]) | (refine wpTree.take (v := .agg t.cells.toArray) (yieldsIf_load_mid rfl 25 _ rfl _ _ rfl t.cells _ (fun _ hS => hS.1) Try.underlying25 rfl (tvinfo t)) ?_; simp only [Act.put, List.setIfInBounds_toArray, List.set_cons_zero, List.set_cons_succ]) | (refine wpTree.take (v := ?_) (Or.inl ⟨by rfl, ?_⟩) ?_; rotate_left; (focus (intro _ hS; (try dsimp only at hS); go_split_ands; (try subst hS); go_simp; (try (with_reducible rfl)); done)); simp only [Act.put, List.setIfInBounds_toArray, List.set_cons_zero, List.set_cons_succ])))
                      clear hcc
                      refine wpTree.one (fun K hK => ?_)
                      go_simp
                      go_at_call 24
                      refine HKN.out.mono ?_
                      rintro e w8 ⟨rfl, hb⟩
                      have hb8 : Below wr.heap.size wr w8 := (Below.refl wr.heap.size wr).drew.trans hb
                      have HM8 := Lib.hid (HMj.out.next hb8)
                      refine hK.out _ _ ⟨rng_next HCC.out.1 hb8, cell_next hb8 HCC.out.2.1, cell_next hb8 HCC.out.2.2⟩ (fun _ => ?_)
                      clear hK K hHeld hb hb8 HKN
                      (try simp only [Act.put, List.setIfInBounds_toArray, List.set_cons_zero, List.set_cons_succ])
                      (repeat (first | (refine wpTree.take (v := undef) (Or.inr ⟨by rfl, rfl⟩) ?_; simp only [Act.put, List.setIfInBounds_toArray, List.set_cons_zero, List.set_cons_succ]) | (refine wpTree.take (v := ?_) (Or.inl ⟨by rfl, ?_⟩) ?_; rotate_left; (focus (intro _ hS; (try dsimp only at hS); go_split_ands; (try subst hS); go_simp; (try (with_reducible rfl)); done)); simp only [Act.put, List.setIfInBounds_toArray, List.set_cons_zero, List.set_cons_succ])))
                      refine wpTree.done ?_
                      go_wp2_with fail
                      (try rw [HW.out])
                      go_roundw
                      case rel => exact ⟨jj, by have := HJ.out; omega, by first | rfl | simp [HJ.out.1], HM8.out⟩
                      case measure => have := HJ.out; simp [intOf]; omega
                    · have hj1 : j = 1 := by have := HH.out.1; have := HH.out.2.1; omega
                      have hne : n0 ≠ n := by
                        subst hj1
                        exact HH.out.2.2.2 n0 n hn0 hn
                      have i3 : (0 : Int) < ((j : Nat) : Int) := by omega
                      have i5 : 0 < j := by omega
                      have i6 : decide (0 < j) = true := by simpa using i5
                      have t3 : (((n : Nat) : Int) == ((n0 : Nat) : Int)) = false := by simpa using (show ¬ ((n : Nat) : Int) = ((n0 : Nat) : Int) by omega)
                      clear hj hlt hjj hn hn0 cm cm0 hk1 hj0 hj1 hne
                      go_upto_region 22 with fail
                      refine wp_region_tree (S := (fun w' => w'.rangeAt gx 0 t.cells ∧ w'.cell? ⟨q, qo + j, none⟩ = some (.int .i64 (n : Nat)) ∧ w'.cell? ⟨q, qo, none⟩ = some (.int .i64 (n0 : Nat)))) (.take 0 (.take 1 (.take 2 (.take 3 (.take 4 (.one 5 (.take 6 (.take 7 (.take 8 (.take 9 (.take 10 (.take 11 (.take 12 (.take 13 (.take 14 (.take 15 (.take 16 (.take 17 (.take 18 (.take 19 (.take 20 .nil))))))))))))))))))))) 9999 (by kernel_rfl) (by kernel_rfl) (by kernel_rfl) (by kernel_rfl) (by kernel_rfl) (fun _ _ d _ _ h => by cases d <;> exact h) hcc (fun hHeld => ?_); simp only [Tree.map, List.getElem?_toArray, List.getElem?_cons_zero, List.getElem?_cons_succ]
                      (repeat (first | (refine wpTree.take (v := undef) (Or.inr ⟨by rfl, rfl⟩) ?_; simp only [Act.put, List.setIfInBounds_toArray, List.set_cons_zero, List.set_cons_succ]) | (refine wpTree.take (v := .agg t.cells.toArray) (yieldsIf_load_mid rfl 25 _ rfl _ _ rfl t.cells _ (fun _ hS => hS.1) Try.underlying25 rfl (tvinfo t)) ?_; simp only [Act.put, List.setIfInBounds_toArray, List.set_cons_zero, List.set_cons_succ]) | (refine wpTree.take (v := ?_) (Or.inl ⟨by rfl, ?_⟩) ?_; rotate_left; (focus (intro _ hS; (try dsimp only at hS); go_split_ands; (try subst hS); go_simp; (try (with_reducible rfl)); done)); simp only [Act.put, List.setIfInBounds_toArray, List.set_cons_zero, List.set_cons_succ])))
                      clear hcc
                      refine wpTree.one (fun K hK => ?_)
                      go_simp
                      go_at_call 24
                      refine HKN.out.mono ?_
                      rintro e w8 ⟨rfl, hb⟩
                      have hb8 : Below wr.heap.size wr w8 := (Below.refl wr.heap.size wr).drew.trans hb
                      have HM8 := Lib.hid (HMj.out.next hb8)
                      refine hK.out _ _ ⟨rng_next HCC.out.1 hb8, cell_next hb8 HCC.out.2.1, cell_next hb8 HCC.out.2.2⟩ (fun _ => ?_)
                      clear hK K hHeld hb hb8 HKN
                      (try simp only [Act.put, List.setIfInBounds_toArray, List.set_cons_zero, List.set_cons_succ])
                      (repeat (first | (refine wpTree.take (v := undef) (Or.inr ⟨by rfl, rfl⟩) ?_; simp only [Act.put, List.setIfInBounds_toArray, List.set_cons_zero, List.set_cons_succ]) | (refine wpTree.take (v := ?_) (Or.inl ⟨by rfl, ?_⟩) ?_; rotate_left; (focus (intro _ hS; (try dsimp only at hS); go_split_ands; (try subst hS); go_simp; (try (with_reducible rfl)); done)); simp only [Act.put, List.setIfInBounds_toArray, List.set_cons_zero, List.set_cons_succ])))
                      refine wpTree.done ?_
                      go_wp2_with fail
                      rw [HW.out]
                      go_roundw
                      case rel => exact ⟨jj, by have := HJ.out; omega, rfl, HM8.out⟩
                      case measure => have := HJ.out; simp [intOf]; omega
                  · have i1 : ¬ (j : Int) < (nH : Nat) := by omega
                    clear hj hlt
                    have HAL := Lib.hid (alive18_any wr)
                    have i4 : (nH : Int) ≤ 2 := by have := HH.out.1; have := HH.out.2.1; omega
                    have i5 : ¬ (2 : Int) < (nH : Int) := by omega
                    go_wp2_with ((go_at_call 12; refine HAL.out.mono ?_; rintro e w6 ⟨rfl, hb⟩; have HB6 := Lib.hid (HMj.out.bel.trans (hb.mono HMj.out.bel.size)); clear hb HAL))
                    go_ret
                    exact ⟨rfl, HB6.out⟩)
end Tr
end Go.Proofs.Ytopkfmamjlkjiaa

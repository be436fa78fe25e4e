/-
interest: InterestOnce, walked.
-/
import Derived.Test.YtopkfmamjlkjiaaTi4
namespace Go.Proofs.Ytopkfmamjlkjiaa
open Go.RowKit
set_option linter.unusedSimpArgs false
set_option linter.unusedVariables false
namespace Tr
set_option maxRecDepth 20000 in
set_option maxHeartbeats 16000000 in
theorem once_walk (W : World) (t : Tv) (hr : RowsOf ec 2 W t.A t.es) (node cart : Int) (hc9 : cart ≤ 9223372036854775807) :
    Calls Try.prog 6 #[.agg t.cells.toArray, .int .i64 node, .int .i64 cart] W fun e W' => e = .returned (.bool true) ∧ Below W.heap.size W W' := by
  have HR := Lib.hid hr
  have HC9 := Lib.hid hc9
  have bb := (Below.refl W.heap.size W).alloc (Nat.le_refl _) (.cells t.cells.toArray 25)
  have hx : Blk (W.alloc (.cells t.cells.toArray 25)) W.heap.size 25 t.cells.toArray := Blk.new W _ _
  obtain ⟨w2, hw2⟩ : ∃ w2, w2 = W.alloc (.cells t.cells.toArray 25) := ⟨_, rfl⟩
  rw [← hw2] at bb hx
  have HB2 := Lib.hid bb
  have HX2 := Lib.hid hx
  have hr0 : w2.rangeAt W.heap.size 0 t.cells := hx.range
  clear bb hx hr hc9
  obtain ⟨bt, hbt⟩ := right_ex t
  have HBT := Lib.hid hbt
  have HG := Lib.hid (great_any w2 t)
  clear hbt
  go_enter Try.func6, Try.ntmps6
  go_upto_region 1 with fail
  rw [← hw2]
  clear hw2
  obtain ⟨gx, hgx⟩ : ∃ gx, gx = W.heap.size := ⟨_, rfl⟩
  rw [← hgx] at HX2 hr0
  (try rw [← hgx])
  clear hgx
  cases hG : decide (20 < t.es.length) with
  | true =>
    rw [hG] at HG
    go_wp2_with (first | (refine load_midg rfl 25 _ rfl _ _ rfl t.cells _ hr0 Try.underlying25 rfl (tvinfo t) ?_; (try simp only [Act.put, List.setIfInBounds_toArray, List.set_cons_zero, List.set_cons_succ])) | (go_at_call 11; refine HG.out.mono ?_; rintro e w3 ⟨rfl, hb⟩; have HB3 := Lib.hid (HB2.out.trans (hb.mono HB2.out.size)); have HX3 := Lib.hid (HX2.out.next hb); have hr0 := HX3.out.range; have HAL := Lib.hid (alive19_any w3); clear hb HG) | (go_at_call 26; refine HAL.out.mono ?_; rintro e w6 ⟨rfl, hb⟩; have HB6 := Lib.hid (HB3.out.trans (hb.mono HB3.out.size)); clear hb HAL))
    go_ret
    exact ⟨rfl, HB6.out⟩
  | false =>
  rw [hG] at HG
  have HLE := Lib.hid (show t.es.length ≤ 1000000 by have := of_decide_eq_false hG; omega)
  clear hG
  cases bt with
  | false =>
    go_wp2_with (first | (refine load_midg rfl 25 _ rfl _ _ rfl t.cells _ hr0 Try.underlying25 rfl (tvinfo t) ?_; (try simp only [Act.put, List.setIfInBounds_toArray, List.set_cons_zero, List.set_cons_succ])) | (go_at_call 11; refine HG.out.mono ?_; rintro e w3 ⟨rfl, hb⟩; have HB3 := Lib.hid (HB2.out.trans (hb.mono HB2.out.size)); have HX3 := Lib.hid (HX2.out.next hb); have hr0 := HX3.out.range; have HRI := Lib.hid (right_is w3 (HR.out.next HB3.out) HLE.out HBT.out); have HAL := Lib.hid (alive19_any w3); clear hb HG) | (go_at_call 21; refine HRI.out.mono ?_; rintro e w4 ⟨rfl, hb⟩; have HB4 := Lib.hid (HB3.out.trans (hb.mono HB3.out.size)); have HX4 := Lib.hid (HX3.out.next hb); have hr0 := HX4.out.range; have HAL := Lib.hid (alive19_any w4); clear hb HRI) | (go_at_call 26; refine HAL.out.mono ?_; rintro e w6 ⟨rfl, hb⟩; have HB6 := Lib.hid (HB4.out.trans (hb.mono HB4.out.size)); clear hb HAL))
    go_ret
    exact ⟨rfl, HB6.out⟩
  | true =>
  obtain ⟨kd, hkd⟩ : ∃ kd, kd = kindV t.k node := ⟨_, rfl⟩
  by_cases hk0 : kd = 0
  · have t1 : (kd == (0 : Int)) = true := by rw [hk0]; rfl
    go_wp2_with (first | (refine load_midg rfl 25 _ rfl _ _ rfl t.cells _ hr0 Try.underlying25 rfl (tvinfo t) ?_; (try simp only [Act.put, List.setIfInBounds_toArray, List.set_cons_zero, List.set_cons_succ])) | (go_at_call 11; refine HG.out.mono ?_; rintro e w3 ⟨rfl, hb⟩; have HB3 := Lib.hid (HB2.out.trans (hb.mono HB2.out.size)); have HX3 := Lib.hid (HX2.out.next hb); have hr0 := HX3.out.range; have HRI := Lib.hid (right_is w3 (HR.out.next HB3.out) HLE.out HBT.out); have HAL := Lib.hid (alive19_any w3); clear hb HG) | (go_at_call 21; refine HRI.out.mono ?_; rintro e w4 ⟨rfl, hb⟩; have HB4 := Lib.hid (HB3.out.trans (hb.mono HB3.out.size)); have HX4 := Lib.hid (HX3.out.next hb); have hr0 := HX4.out.range; have HAL := Lib.hid (alive19_any w4); have HKD := Lib.hid (show Calls Try.prog 24 #[.agg t.cells.toArray, .int .i64 node] w4 fun e W' => e = .returned (.int .i64 kd) ∧ Below w4.heap.size w4 W' by rw [hkd]; exact kind_any w4 t node); clear hb HRI) | (go_at_call 24; refine HKD.out.mono ?_; rintro e w5 ⟨rfl, hb⟩; have HB5 := Lib.hid (HB4.out.trans (hb.mono HB4.out.size)); have HX5 := Lib.hid (HX4.out.next hb); have HAL := Lib.hid (alive19_any w5); clear hb HKD) | (go_at_call 26; refine HAL.out.mono ?_; rintro e w6 ⟨rfl, hb⟩; have HB6 := Lib.hid (HB5.out.trans (hb.mono HB5.out.size)); clear hb HAL))
    go_ret
    exact ⟨rfl, HB6.out⟩
  have t1 : (kd == (0 : Int)) = false := by simpa using hk0
  have HKT := Lib.hid (show thereB t.k node = true from right_kind HBT.out (by rw [← hkd]; exact hk0))
  go_upto_region 3 with (first | (refine load_midg rfl 25 _ rfl _ _ rfl t.cells _ hr0 Try.underlying25 rfl (tvinfo t) ?_; (try simp only [Act.put, List.setIfInBounds_toArray, List.set_cons_zero, List.set_cons_succ])) | (go_at_call 11; refine HG.out.mono ?_; rintro e w3 ⟨rfl, hb⟩; have HB3 := Lib.hid (HB2.out.trans (hb.mono HB2.out.size)); have HX3 := Lib.hid (HX2.out.next hb); have hr0 := HX3.out.range; have HRI := Lib.hid (right_is w3 (HR.out.next HB3.out) HLE.out HBT.out); have HAL := Lib.hid (alive19_any w3); clear hb HG) | (go_at_call 21; refine HRI.out.mono ?_; rintro e w4 ⟨rfl, hb⟩; have HB4 := Lib.hid (HB3.out.trans (hb.mono HB3.out.size)); have HX4 := Lib.hid (HX3.out.next hb); have hr0 := HX4.out.range; have HAL := Lib.hid (alive19_any w4); have HKD := Lib.hid (show Calls Try.prog 24 #[.agg t.cells.toArray, .int .i64 node] w4 fun e W' => e = .returned (.int .i64 kd) ∧ Below w4.heap.size w4 W' by rw [hkd]; exact kind_any w4 t node); clear hb HRI) | (go_at_call 24; refine HKD.out.mono ?_; rintro e w5 ⟨rfl, hb⟩; have HB5 := Lib.hid (HB4.out.trans (hb.mono HB4.out.size)); have HX5 := Lib.hid (HX4.out.next hb); have HAL := Lib.hid (alive19_any w5); clear hb HKD))
  clear t1 hr0 hkd hk0
  have hcc : w5.rangeAt gx 0 t.cells := HX5.out.range
  have HRE := Lib.hid (ireach_any w5.drew t (HR.out.next HB5.out.drew) HLE.out node cart HC9.out)
  refine wp_region_tree (S := (fun w' => w'.rangeAt gx 0 t.cells)) (.take 0 (.take 1 (.take 2 (.take 4 (.take 5 (.one 3 (.one 6 (.take 7 (.take 8 .nil))))))))) 9999 (by kernel_rfl) (by kernel_rfl) (by kernel_rfl) (by kernel_rfl) (by kernel_rfl) (fun _ _ d _ _ h => by cases d <;> exact h) hcc (fun hHeld => ?_); simp only [Tree.map, List.getElem?_toArray, List.getElem?_cons_zero, List.getElem?_cons_succ]
  (repeat (first | (refine wpTree.take (v := undef) (Or.inr ⟨by rfl, rfl⟩) ?_; simp only [Act.put, List.setIfInBounds_toArray, List.set_cons_zero, List.set_cons_succ]) | (refine wpTree.take (v := .agg t.cells.toArray) (yieldsIf_load_mid rfl 25 _ rfl _ _ rfl t.cells _ (fun _ hS => hS) Try.underlying25 rfl (tvinfo t)) ?_; simp only [Act.put, List.setIfInBounds_toArray, List.set_cons_zero, List.set_cons_succ]) | (refine wpTree.take (v := ?_) (Or.inl ⟨by rfl, ?_⟩) ?_; rotate_left; (focus (intro _ hS; (try dsimp only at hS); go_split_ands; (try subst hS); go_simp; (try (with_reducible rfl)); done)); simp only [Act.put, List.setIfInBounds_toArray, List.set_cons_zero, List.set_cons_succ])))
  clear hcc
  refine wpTree.one (fun K hK => ?_)
  go_simp
  go_at_call 27
  refine HRE.out.mono ?_
  rintro e wa ⟨vl, O, rfl, hNa, hP, hb⟩
  have hba : Below w5.heap.size w5 wa := (Below.refl w5.heap.size w5).drew.trans hb
  have HBA := Lib.hid hba
  have HNA := Lib.hid hNa
  have HP := Lib.hid (show RightP t true ∧ ReachP t node cart O by
    rcases hP with ⟨h, -⟩ | h
    · exact absurd (right_uniq h HBT.out) (by decide)
    · exact h)
  have HHO := Lib.hid (homes_any wa t cart HC9.out)
  refine hK.out _ _ (rng_next HX5.out.range hba) (fun _ => ?_)
  clear hK K hHeld hba hNa hP hb HRE
  (try simp only [Act.put, List.setIfInBounds_toArray, List.set_cons_zero, List.set_cons_succ])
  refine wpTree.one (fun K hK => ?_)
  go_simp
  go_at_call 25
  refine HHO.out.mono ?_
  rintro e wb ⟨vh, rfl, hNb, hb⟩
  have hbb : Below w5.heap.size w5 wb := HBA.out.trans (hb.mono HBA.out.size)
  have HM := Lib.hid (show LM W wb gx t vl O vh (homesL t cart) from ⟨HX5.out.next hbb, (HNA.out.next hb).le HB5.out.size, hNb.le (HB5.out.trans (HBA.out.mono HB5.out.size)).size, HB5.out.trans (hbb.mono HB5.out.size)⟩)
  refine hK.out _ _ (rng_next HX5.out.range hbb) (fun _ => ?_)
  clear hK K hbb hNb hb HHO HNA HBA
  (try simp only [Act.put, List.setIfInBounds_toArray, List.set_cons_zero, List.set_cons_succ])
  (repeat (first | (refine wpTree.take (v := undef) (Or.inr ⟨by rfl, rfl⟩) ?_; simp only [Act.put, List.setIfInBounds_toArray, List.set_cons_zero, List.set_cons_succ]) | (refine wpTree.take (v := ?_) (Or.inl ⟨by rfl, ?_⟩) ?_; rotate_left; (focus (intro _ hS; (try dsimp only at hS); go_split_ands; (try subst hS); go_simp; (try (with_reducible rfl)); done)); simp only [Act.put, List.setIfInBounds_toArray, List.set_cons_zero, List.set_cons_succ])))
  refine wpTree.done ?_
  obtain ⟨H, hH⟩ : ∃ H, H = homesL t cart := ⟨_, rfl⟩
  rw [← hH] at HM
  have HH := Lib.hid (show H = homesL t cart ∧ H.length ≤ 2 from ⟨hH, by rw [hH]; exact (homes_are t cart).1⟩)
  have HOL := Lib.hid (show O.length ≤ 12 by
    rcases HP.out.2 with ⟨_, h⟩ | ⟨_, h⟩
    · rw [h]; simp
    · exact Nat.le_trans (nodup_len (m := thoseL fun _ => true) (List.nodup_cons.1 h.nd).2 fun n hn => those_mem.2 ⟨by have := there_in (h.mem hn).2; omega, by have := there_in (h.mem hn).2; omega, rfl⟩) (those_le _ 12))
  obtain ⟨Al, cl, hvl⟩ := HM.out.rl.shape
  obtain ⟨Ah, ch, hvh⟩ := HM.out.rh.shape
  subst hvl
  subst hvh
  obtain ⟨nO, hnO⟩ : ∃ n, n = O.length := ⟨_, rfl⟩
  obtain ⟨nH, hnH⟩ : ∃ n, n = H.length := ⟨_, rfl⟩
  rw [← hnO, ← hnH] at HM
  (try rw [← hnO])
  (try rw [← hnH])
  have HNO := Lib.hid (And.intro hnO hnH)
  clear hH hnO hnH
  obtain ⟨s, hs, -, -⟩ := there_nat HKT.out
  have HBE := Lib.hid (show BE (joinN t) (twP t cart) s O ∧ thereB t.k (s : Nat) = true by
    have hk := HKT.out
    rcases HP.out.2 with ⟨h, -⟩ | ⟨-, h⟩
    · rw [hk] at h; cases h
    · rw [hs] at h hk
      rw [Int.toNat_natCast] at h
      exact ⟨h, hk⟩)
  subst hs
  clear HX2 HX3 HX4 HX5 HB2 HB3 HB4 HB5 HAL HP HKT
  go_upto_region 5 with fail
  go_loopw [9] (fun i wr => ∃ j : Nat, j ≤ nO ∧ i = .int .i64 j ∧ LM W wr gx t (.slice Al nO cl) O (.slice Ah nH ch) H) (fun i _ => nO - (intOf i).toNat)
  case atStart => exact ⟨0, Nat.zero_le _, rfl, HM.out⟩
  case round =>
    clear HM
    obtain ⟨j, hj, rfl, hM⟩ := hrel
    have HM := Lib.hid hM
    clear hM
    by_cases hlt : j < nO
    · have i1 : (j : Int) < (nO : Nat) := by omega
      have i2 : ¬ (j : Int) < 0 := by omega
      obtain ⟨jj, hjj⟩ : ∃ jj, jj = j + 1 := ⟨_, rfl⟩
      have HW := Lib.hid (wrap_n j jj hjj (by have := HNO.out; have := HOL.out; omega))
      have HJ := Lib.hid (And.intro hjj hlt)
      obtain ⟨n, hn⟩ : ∃ n, O[j]? = some n := ⟨_, List.getElem?_eq_getElem (by rw [← HNO.out.1]; exact hlt)⟩
      obtain ⟨q, qo, qc, ev, _, cm⟩ := HM.out.rl.at_ hn
      have hrd := (HM.out.rl.rd).take j
      simp only [Value.slice.injEq] at ev
      obtain ⟨rfl, -, rfl⟩ := ev
      have hcp : nO ≤ cl := by
        obtain ⟨_, _, _, e, h, _⟩ := HM.out.rl.lies (by have := HNO.out.1; omega)
        simp only [Value.slice.injEq] at e
        rw [e.2.2, HNO.out.1]; exact h
      have HIN := Lib.hid (show Calls Try.prog 28 #[.slice (some ⟨q, qo, none⟩) j cl, .int .i64 (n : Nat)] wr.drew fun e W' => e = .returned (.bool false) ∧ W' = wr.drew by
        have h := in_any wr.drew (A := some ⟨q, qo, none⟩) (l := O.take j) hrd j cl (by rw [List.length_take, ← HNO.out.1]; omega) (by rw [List.length_take]; have := HOL.out; omega) (n : Nat)
        rw [has_take (List.nodup_cons.1 HBE.out.1.nd).2 hn] at h
        exact h)
      obtain ⟨kn, hkn⟩ : ∃ kn, kn = kindV t.k (n : Nat) := ⟨_, rfl⟩
      have HKN := Lib.hid (show Calls Try.prog 24 #[.agg t.cells.toArray, .int .i64 (n : Nat)] wr.drew fun e W' => e = .returned (.int .i64 kn) ∧ Below wr.drew.heap.size wr.drew W' by rw [hkn]; exact kind_any wr.drew t (n : Nat))
      have hmem := HBE.out.1.mem (List.mem_of_getElem? hn)
      have t2 : (((n : Nat) : Int) == ((s : Nat) : Int)) = false := by
        have := hmem.1
        simpa using (show ¬ ((n : Nat) : Int) = ((s : Nat) : Int) by omega)
      have t3 : (kn == (0 : Int)) = false := by
        have := kind_pos hmem.2
        rw [← hkn] at this
        simpa using this
      have s2 : (j : Int) ≤ (cl : Nat) := by omega
      have s3 : ¬ (cl : Int) < (j : Nat) := by omega
      have s4 : j ≤ cl := by omega
      have hcc : wr.rangeAt gx 0 t.cells ∧ wr.cell? ⟨q, qo + j, none⟩ = some (.int .i64 (n : Nat)) := ⟨HM.out.bx.range, cm⟩
      have HCC := Lib.hid hcc
      clear hj hlt hjj hn hrd hcp hkn hmem cm
      go_upto_region 7 with fail
      refine wp_region_tree (S := (fun w' => w'.rangeAt gx 0 t.cells ∧ w'.cell? ⟨q, qo + j, none⟩ = some (.int .i64 (n : Nat)))) (.take 0 (.take 1 (.take 2 (.take 3 (.take 4 (.take 5 (.take 6 (.one 7 (.take 8 (.take 9 (.take 10 (.take 11 (.take 12 (.take 13 (.take 14 (.take 15 (.take 16 (.take 17 (.take 18 (.take 19 (.take 20 (.take 21 (.one 22 (.take 23 (.take 24 .nil))))))))))))))))))))))))) 9999 (by kernel_rfl) (by kernel_rfl) (by kernel_rfl) (by kernel_rfl) (by kernel_rfl) (fun _ _ d _ _ h => by cases d <;> exact h) hcc (fun hHeld => ?_); simp only [Tree.map, List.getElem?_toArray, List.getElem?_cons_zero, List.getElem?_cons_succ]
      (repeat (first | (refine wpTree.take (v := undef) (Or.inr ⟨by rfl, rfl⟩) ?_; simp only [Act.put, List.setIfInBounds_toArray, List.set_cons_zero, List.set_cons_succ]) | (refine wpTree.take (v := .agg t.cells.toArray) (yieldsIf_load_mid rfl 25 _ rfl _ _ rfl t.cells _ (fun _ hS => hS.1) Try.underlying25 rfl (tvinfo t)) ?_; simp only [Act.put, List.setIfInBounds_toArray, List.set_cons_zero, List.set_cons_succ]) | (refine wpTree.take (v := ?_) (Or.inl ⟨by rfl, ?_⟩) ?_; rotate_left; (focus (intro _ hS; (try dsimp only at hS); go_split_ands; (try subst hS); go_simp; (try (with_reducible rfl)); done)); simp only [Act.put, List.setIfInBounds_toArray, List.set_cons_zero, List.set_cons_succ])))
      clear hcc
      refine wpTree.one (fun K hK => ?_)
      go_simp
      go_at_call 28
      refine HIN.out.mono ?_
      rintro e w7 ⟨rfl, rfl⟩
      refine hK.out _ _ HCC.out (fun _ => ?_)
      clear hK K hHeld HIN
      (try simp only [Act.put, List.setIfInBounds_toArray, List.set_cons_zero, List.set_cons_succ])
      (repeat (first | (refine wpTree.take (v := undef) (Or.inr ⟨by rfl, rfl⟩) ?_; simp only [Act.put, List.setIfInBounds_toArray, List.set_cons_zero, List.set_cons_succ]) | (refine wpTree.take (v := .agg t.cells.toArray) (yieldsIf_load_mid rfl 25 _ rfl _ _ rfl t.cells _ (fun _ hS => hS.1) Try.underlying25 rfl (tvinfo t)) ?_; simp only [Act.put, List.setIfInBounds_toArray, List.set_cons_zero, List.set_cons_succ]) | (refine wpTree.take (v := ?_) (Or.inl ⟨by rfl, ?_⟩) ?_; rotate_left; (focus (intro _ hS; (try dsimp only at hS); go_split_ands; (try subst hS); go_simp; (try (with_reducible rfl)); done)); simp only [Act.put, List.setIfInBounds_toArray, List.set_cons_zero, List.set_cons_succ])))
      refine wpTree.one (fun K hK => ?_)
      go_simp
      go_at_call 24
      refine HKN.out.mono ?_
      rintro e w8 ⟨rfl, hb⟩
      have hb8 : Below wr.heap.size wr w8 := (Below.refl wr.heap.size wr).drew.trans hb
      have HM8 := Lib.hid (HM.out.next hb8)
      refine hK.out _ _ ⟨rng_next HCC.out.1 hb8, cell_next hb8 HCC.out.2⟩ (fun _ => ?_)
      clear hK K hb hb8 HKN
      (try simp only [Act.put, List.setIfInBounds_toArray, List.set_cons_zero, List.set_cons_succ])
      (repeat (first | (refine wpTree.take (v := undef) (Or.inr ⟨by rfl, rfl⟩) ?_; simp only [Act.put, List.setIfInBounds_toArray, List.set_cons_zero, List.set_cons_succ]) | (refine wpTree.take (v := ?_) (Or.inl ⟨by rfl, ?_⟩) ?_; rotate_left; (focus (intro _ hS; (try dsimp only at hS); go_split_ands; (try subst hS); go_simp; (try (with_reducible rfl)); done)); simp only [Act.put, List.setIfInBounds_toArray, List.set_cons_zero, List.set_cons_succ])))
      refine wpTree.done ?_
      go_wp2_with fail
      rw [HW.out]
      go_roundw
      case rel => exact ⟨jj, by have := HJ.out; omega, rfl, HM8.out⟩
      case measure => have := HJ.out; simp [intOf]; omega
    · have i1 : ¬ (j : Int) < (nO : Nat) := by omega
      clear hj hlt
      go_upto_region 10 with fail
      go_loopw [10] (fun i wy => ∃ j : Nat, j ≤ nH ∧ i = .int .i64 j ∧ LM W wy gx t (.slice Al nO cl) O (.slice Ah nH ch) H) (fun i _ => nH - (intOf i).toNat)
      case atStart => exact ⟨0, Nat.zero_le _, rfl, HM.out⟩
      case round =>
        clear HM
        obtain ⟨j, hj, rfl, hM⟩ := hrel
        have HM := Lib.hid hM
        clear hM i1
        by_cases hlt : j < nH
        · have i1 : (j : Int) < (nH : Nat) := by omega
          have i2 : ¬ (j : Int) < 0 := by omega
          obtain ⟨jj, hjj⟩ : ∃ jj, jj = j + 1 := ⟨_, rfl⟩
          have HW := Lib.hid (wrap_n j jj hjj (by have := HNO.out; have := HH.out; omega))
          have HJ := Lib.hid (And.intro hjj hlt)
          obtain ⟨m, hm⟩ : ∃ m, H[j]? = some m := ⟨_, List.getElem?_eq_getElem (by rw [← HNO.out.2]; exact hlt)⟩
          obtain ⟨q, qo, qc, ev, _, cm⟩ := HM.out.rh.at_ hm
          simp only [Value.slice.injEq] at ev
          obtain ⟨rfl, -, rfl⟩ := ev
          have hmH : m ∈ homesL t cart := by rw [← HH.out.1]; exact List.mem_of_getElem? hm
          clear hj hlt hjj hm
          by_cases hms : m = s
          · have t2 : (((m : Nat) : Int) != ((s : Nat) : Int)) = false := by rw [hms]; simp
            clear hms hmH
            go_wp2_with fail
            rw [HW.out]
            go_roundw
            case rel => exact ⟨jj, by have := HJ.out; omega, rfl, HM.out⟩
            case measure => have := HJ.out; simp [intOf]; omega
          · have t2 : (((m : Nat) : Int) != ((s : Nat) : Int)) = true := by simpa using (show ¬ ((m : Nat) : Int) = ((s : Nat) : Int) by omega)
            have t3 : (((m : Nat) : Int) == ((s : Nat) : Int)) = false := by simpa using (show ¬ ((m : Nat) : Int) = ((s : Nat) : Int) by omega)
            have HIN := Lib.hid (show Calls Try.prog 28 #[.slice Al nO cl, .int .i64 (m : Nat)] wr fun e W' => e = .returned (.bool true) ∧ W' = wr by
              have h := in_any wr (A := Al) (l := O) HM.out.rl.rd nO cl HNO.out.1 (by have := HOL.out; omega) (m : Nat)
              rw [has_nat.2 ((List.mem_cons.1 (HBE.out.1.home HBT.out HBE.out.2 hmH)).resolve_left hms)] at h
              exact h)
            clear hms hmH
            go_wp2_with (go_at_call 28; refine HIN.out.mono ?_; rintro e w8 ⟨rfl, rfl⟩; clear HIN)
            rw [HW.out]
            go_roundw
            case rel => exact ⟨jj, by have := HJ.out; omega, rfl, HM.out⟩
            case measure => have := HJ.out; simp [intOf]; omega
        · have i1 : ¬ (j : Int) < (nH : Nat) := by omega
          clear hj hlt
          have HAL := Lib.hid (alive19_any wr)
          by_cases h0 : nH = 0
          · have hO : nO = 0 := by
              have h1 : H = [] := List.eq_nil_of_length_eq_zero (by rw [← HNO.out.2]; exact h0)
              have h2 := HBE.out.1.none (by rw [← HH.out.1]; exact h1)
              rw [HNO.out.1, h2]; rfl
            subst h0
            subst hO
            go_wp2_with ((go_at_call 26; refine HAL.out.mono ?_; rintro e w6 ⟨rfl, hb⟩; have HB6 := Lib.hid (HM.out.bel.trans (hb.mono HM.out.bel.size)); clear hb HAL))
            go_ret
            exact ⟨rfl, HB6.out⟩
          · have i4 : (0 : Int) < (nH : Nat) := by omega
            have i5 : 0 < nH := by omega
            clear h0
            go_wp2_with ((go_at_call 26; refine HAL.out.mono ?_; rintro e w6 ⟨rfl, hb⟩; have HB6 := Lib.hid (HM.out.bel.trans (hb.mono HM.out.bel.size)); clear hb HAL))
            go_ret
            exact ⟨rfl, HB6.out⟩
end Tr
end Go.Proofs.Ytopkfmamjlkjiaa

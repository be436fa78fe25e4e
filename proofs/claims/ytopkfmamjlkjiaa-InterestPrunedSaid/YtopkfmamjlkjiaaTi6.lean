/-
interest: InterestPruned, walked.
-/
import Derived.Test.YtopkfmamjlkjiaaTi4
namespace Go.Proofs.Ytopkfmamjlkjiaa
open Go.RowKit
set_option linter.unusedSimpArgs false
set_option linter.unusedVariables false
namespace Tr
set_option maxRecDepth 20000 in
set_option maxHeartbeats 16000000 in
theorem pruned_walk (W : World) (t : Tv) (hr : RowsOf ec 2 W t.A t.es) (node cart : Int) (hc9 : cart ≤ 9223372036854775807) :
    Calls Try.prog 7 #[.agg t.cells.toArray, .int .i64 node, .int .i64 cart] W fun e W' => e = .returned (.bool true) ∧ Below W.heap.size W W' := by
  have HR := Lib.hid hr
  have HC9 := Lib.hid hc9
  have bb := (Below.refl W.heap.size W).alloc (Nat.le_refl _) (.cells t.cells.toArray 25)
  have hx : Blk (W.alloc (.cells t.cells.toArray 25)) W.heap.size 25 t.cells.toArray := Blk.new W _ _
  obtain ⟨w2, hw2⟩ : ∃ w2, w2 = W.alloc (.cells t.cells.toArray 25) := ⟨_, rfl⟩
  rw [← hw2] at bb hx
  have HB2 := Lib.hid bb
  have HX2 := Lib.hid hx
  have hr0 : w2.rangeAt W.heap.size 0 t.cells := hx.range
  clear bb hx hr hc9
  obtain ⟨bt, hbt⟩ := right_ex t
  have HBT := Lib.hid hbt
  have HG := Lib.hid (great_any w2 t)
  clear hbt
  go_enter Try.func7, Try.ntmps7
  go_upto_region 1 with fail
  rw [← hw2]
  clear hw2
  obtain ⟨gx, hgx⟩ : ∃ gx, gx = W.heap.size := ⟨_, rfl⟩
  rw [← hgx] at HX2 hr0
  (try rw [← hgx])
  clear hgx
  cases hG : decide (20 < t.es.length) with
  | true =>
    rw [hG] at HG
    go_wp2_with (first | (refine load_midg rfl 25 _ rfl _ _ rfl t.cells _ hr0 Try.underlying25 rfl (tvinfo t) ?_; (try simp only [Act.put, List.setIfInBounds_toArray, List.set_cons_zero, List.set_cons_succ])) | (go_at_call 11; refine HG.out.mono ?_; rintro e w3 ⟨rfl, hb⟩; have HB3 := Lib.hid (HB2.out.trans (hb.mono HB2.out.size)); have HX3 := Lib.hid (HX2.out.next hb); have hr0 := HX3.out.range; have HAL := Lib.hid (alive19_any w3); clear hb HG) | (go_at_call 26; refine HAL.out.mono ?_; rintro e w6 ⟨rfl, hb⟩; have HB6 := Lib.hid (HB3.out.trans (hb.mono HB3.out.size)); clear hb HAL))
    go_ret
    exact ⟨rfl, HB6.out⟩
  | false =>
  rw [hG] at HG
  have HLE := Lib.hid (show t.es.length ≤ 1000000 by have := of_decide_eq_false hG; omega)
  clear hG
  cases bt with
  | false =>
    go_wp2_with (first | (refine load_midg rfl 25 _ rfl _ _ rfl t.cells _ hr0 Try.underlying25 rfl (tvinfo t) ?_; (try simp only [Act.put, List.setIfInBounds_toArray, List.set_cons_zero, List.set_cons_succ])) | (go_at_call 11; refine HG.out.mono ?_; rintro e w3 ⟨rfl, hb⟩; have HB3 := Lib.hid (HB2.out.trans (hb.mono HB2.out.size)); have HX3 := Lib.hid (HX2.out.next hb); have hr0 := HX3.out.range; have HRI := Lib.hid (right_is w3 (HR.out.next HB3.out) HLE.out HBT.out); have HAL := Lib.hid (alive19_any w3); clear hb HG) | (go_at_call 21; refine HRI.out.mono ?_; rintro e w4 ⟨rfl, hb⟩; have HB4 := Lib.hid (HB3.out.trans (hb.mono HB3.out.size)); have HX4 := Lib.hid (HX3.out.next hb); have hr0 := HX4.out.range; have HAL := Lib.hid (alive19_any w4); clear hb HRI) | (go_at_call 26; refine HAL.out.mono ?_; rintro e w6 ⟨rfl, hb⟩; have HB6 := Lib.hid (HB4.out.trans (hb.mono HB4.out.size)); clear hb HAL))
    go_ret
    exact ⟨rfl, HB6.out⟩
  | true =>
  go_upto_region 3 with (first | (refine load_midg rfl 25 _ rfl _ _ rfl t.cells _ hr0 Try.underlying25 rfl (tvinfo t) ?_; (try simp only [Act.put, List.setIfInBounds_toArray, List.set_cons_zero, List.set_cons_succ])) | (go_at_call 11; refine HG.out.mono ?_; rintro e w3 ⟨rfl, hb⟩; have HB3 := Lib.hid (HB2.out.trans (hb.mono HB2.out.size)); have HX3 := Lib.hid (HX2.out.next hb); have hr0 := HX3.out.range; have HRI := Lib.hid (right_is w3 (HR.out.next HB3.out) HLE.out HBT.out); have HAL := Lib.hid (alive19_any w3); clear hb HG) | (go_at_call 21; refine HRI.out.mono ?_; rintro e w4 ⟨rfl, hb⟩; have HB4 := Lib.hid (HB3.out.trans (hb.mono HB3.out.size)); have HX4 := Lib.hid (HX3.out.next hb); have hr0 := HX4.out.range; have HAL := Lib.hid (alive19_any w4); clear hb HRI))
  clear hr0
  have hcc : w4.rangeAt gx 0 t.cells := HX4.out.range
  have HRE := Lib.hid (ireach_any w4.drew t (HR.out.next HB4.out.drew) HLE.out node cart HC9.out)
  refine wp_region_tree (S := (fun w' => w'.rangeAt gx 0 t.cells)) (.take 0 (.take 1 (.take 2 (.take 4 (.take 5 (.one 3 (.one 6 (.take 7 (.take 8 .nil))))))))) 9999 (by kernel_rfl) (by kernel_rfl) (by kernel_rfl) (by kernel_rfl) (by kernel_rfl) (fun _ _ d _ _ h => by cases d <;> exact h) hcc (fun hHeld => ?_); simp only [Tree.map, List.getElem?_toArray, List.getElem?_cons_zero, List.getElem?_cons_succ]
  (repeat (first | (refine wpTree.take (v := undef) (Or.inr ⟨by rfl, rfl⟩) ?_; simp only [Act.put, List.setIfInBounds_toArray, List.set_cons_zero, List.set_cons_succ]) | (refine wpTree.take (v := .agg t.cells.toArray) (yieldsIf_load_mid rfl 25 _ rfl _ _ rfl t.cells _ (fun _ hS => hS) Try.underlying25 rfl (tvinfo t)) ?_; simp only [Act.put, List.setIfInBounds_toArray, List.set_cons_zero, List.set_cons_succ]) | (refine wpTree.take (v := ?_) (Or.inl ⟨by rfl, ?_⟩) ?_; rotate_left; (focus (intro _ hS; (try dsimp only at hS); go_split_ands; (try subst hS); go_simp; (try (with_reducible rfl)); done)); simp only [Act.put, List.setIfInBounds_toArray, List.set_cons_zero, List.set_cons_succ])))
  clear hcc
  refine wpTree.one (fun K hK => ?_)
  go_simp
  go_at_call 27
  refine HRE.out.mono ?_
  rintro e wa ⟨vl, O, rfl, hNa, hP, hb⟩
  have hba : Below w4.heap.size w4 wa := (Below.refl w4.heap.size w4).drew.trans hb
  have HBA := Lib.hid hba
  have HNA := Lib.hid hNa
  have HP := Lib.hid (show RightP t true ∧ ReachP t node cart O by
    rcases hP with ⟨h, -⟩ | h
    · exact absurd (right_uniq h HBT.out) (by decide)
    · exact h)
  have HHO := Lib.hid (homes_any wa t cart HC9.out)
  refine hK.out _ _ (rng_next HX4.out.range hba) (fun _ => ?_)
  clear hK K hHeld hba hNa hP hb HRE
  (try simp only [Act.put, List.setIfInBounds_toArray, List.set_cons_zero, List.set_cons_succ])
  refine wpTree.one (fun K hK => ?_)
  go_simp
  go_at_call 25
  refine HHO.out.mono ?_
  rintro e wb ⟨vh, rfl, hNb, hb⟩
  have hbb : Below w4.heap.size w4 wb := HBA.out.trans (hb.mono HBA.out.size)
  have HM := Lib.hid (show LM W wb gx t vl O vh (homesL t cart) from ⟨HX4.out.next hbb, (HNA.out.next hb).le HB4.out.size, hNb.le (HB4.out.trans (HBA.out.mono HB4.out.size)).size, HB4.out.trans (hbb.mono HB4.out.size)⟩)
  refine hK.out _ _ (rng_next HX4.out.range hbb) (fun _ => ?_)
  clear hK K hbb hNb hb HHO HNA HBA
  (try simp only [Act.put, List.setIfInBounds_toArray, List.set_cons_zero, List.set_cons_succ])
  (repeat (first | (refine wpTree.take (v := undef) (Or.inr ⟨by rfl, rfl⟩) ?_; simp only [Act.put, List.setIfInBounds_toArray, List.set_cons_zero, List.set_cons_succ]) | (refine wpTree.take (v := ?_) (Or.inl ⟨by rfl, ?_⟩) ?_; rotate_left; (focus (intro _ hS; (try dsimp only at hS); go_split_ands; (try subst hS); go_simp; (try (with_reducible rfl)); done)); simp only [Act.put, List.setIfInBounds_toArray, List.set_cons_zero, List.set_cons_succ])))
  refine wpTree.done ?_
  obtain ⟨H, hH⟩ : ∃ H, H = homesL t cart := ⟨_, rfl⟩
  rw [← hH] at HM
  have HH := Lib.hid (show H = homesL t cart ∧ H.length ≤ 2 from ⟨hH, by rw [hH]; exact (homes_are t cart).1⟩)
  have HOL := Lib.hid (show O.length ≤ 12 by
    rcases HP.out.2 with ⟨_, h⟩ | ⟨_, h⟩
    · rw [h]; simp
    · exact Nat.le_trans (nodup_len (m := thoseL fun _ => true) (List.nodup_cons.1 h.nd).2 fun n hn => those_mem.2 ⟨by have := there_in (h.mem hn).2; omega, by have := there_in (h.mem hn).2; omega, rfl⟩) (those_le _ 12))
  obtain ⟨Al, cl, hvl⟩ := HM.out.rl.shape
  obtain ⟨Ah, ch, hvh⟩ := HM.out.rh.shape
  subst hvl
  subst hvh
  obtain ⟨nO, hnO⟩ : ∃ n, n = O.length := ⟨_, rfl⟩
  obtain ⟨nH, hnH⟩ : ∃ n, n = H.length := ⟨_, rfl⟩
  rw [← hnO, ← hnH] at HM
  (try rw [← hnO])
  (try rw [← hnH])
  have HNO := Lib.hid (And.intro hnO hnH)
  clear hH hnO hnH
  clear HX2 HX3 HX4 HB2 HB3 HB4 HAL
  go_upto_region 5 with fail
  go_loopw [9] (fun i wr => ∃ j : Nat, j ≤ nO ∧ i = .int .i64 j ∧ LM W wr gx t (.slice Al nO cl) O (.slice Ah nH ch) H) (fun i _ => nO - (intOf i).toNat)
  case atStart => exact ⟨0, Nat.zero_le _, rfl, HM.out⟩
  case round =>
    clear HM
    obtain ⟨j, hj, rfl, hM⟩ := hrel
    have HM := Lib.hid hM
    clear hM
    by_cases hlt : j < nO
    · have i1 : (j : Int) < (nO : Nat) := by omega
      have i2 : ¬ (j : Int) < 0 := by omega
      obtain ⟨jj, hjj⟩ : ∃ jj, jj = j + 1 := ⟨_, rfl⟩
      have HW := Lib.hid (wrap_n j jj hjj (by have := HNO.out; have := HOL.out; omega))
      have HJ := Lib.hid (And.intro hjj hlt)
      obtain ⟨n, hn⟩ : ∃ n, O[j]? = some n := ⟨_, List.getElem?_eq_getElem (by rw [← HNO.out.1]; exact hlt)⟩
      have hmO := List.mem_of_getElem? hn
      obtain ⟨s, hs, hBE⟩ : ∃ s : Nat, node = (s : Nat) ∧ BE (joinN t) (twP t cart) s O := by
        rcases HP.out.2 with ⟨-, h⟩ | ⟨h1, h⟩
        · rw [h] at hmO; cases hmO
        · obtain ⟨s, hs, -, -⟩ := there_nat h1
          rw [hs, Int.toNat_natCast] at h
          exact ⟨s, hs, h⟩
      have HON := Lib.hid (show n ∈ H ∨ ∃ m, joinN t n m = true ∧ ¬ Bey (joinN t) n m s ∧ ∃ h ∈ H, Bey (joinN t) n m h by rw [HH.out.1]; exact hBE.onward HBT.out hmO)
      obtain ⟨q, qo, qc, ev, _, cm⟩ := HM.out.rl.at_ hn
      have hin := in_any wr (A := Ah) (l := H) HM.out.rh.rd nH ch HNO.out.2 (by have := HH.out.2; omega) (n : Nat)
      obtain ⟨b0, hb0⟩ : ∃ b0, b0 = hasB H (n : Nat) := ⟨_, rfl⟩
      rw [← hb0] at hin
      have HIN := Lib.hid hin
      have HB0 := Lib.hid (show b0 = true ∨ n ∉ H by
        cases hb : b0 with
        | true => exact .inl rfl
        | false => exact .inr fun h => by rw [has_nat.2 h, hb] at hb0; cases hb0)
      have HNX := Lib.hid (next_any wr.drew t (HR.out.next HM.out.bel.drew) HLE.out (n : Nat))
      have hcc : wr.rangeAt gx 0 t.cells ∧ wr.cell? ⟨q, qo + j, none⟩ = some (.int .i64 (n : Nat)) := ⟨HM.out.bx.range, cm⟩
      have HCC := Lib.hid hcc
      have HAL := Lib.hid (And.intro ev hn)
      simp only [Value.slice.injEq] at ev
      obtain ⟨rfl, -, rfl⟩ := ev
      subst hs
      clear hj hlt hjj hn hmO hBE hin hb0
      go_upto_region 8 with (go_at_call 28; refine HIN.out.mono ?_; rintro e w7 ⟨rfl, hw7⟩; obtain rfl := hw7.symm; clear HIN)
      clear cm
      refine wp_region_tree (S := (fun w' => w'.rangeAt gx 0 t.cells ∧ w'.cell? ⟨q, qo + j, none⟩ = some (.int .i64 (n : Nat)))) (.take 0 (.take 1 (.take 2 (.take 3 (.take 4 (.one 5 (.take 6 .nil))))))) 9999 (by kernel_rfl) (by kernel_rfl) (by kernel_rfl) (by kernel_rfl) (by kernel_rfl) (fun _ _ d _ _ h => by cases d <;> exact h) hcc (fun hHeld => ?_); simp only [Tree.map, List.getElem?_toArray, List.getElem?_cons_zero, List.getElem?_cons_succ]
      (repeat (first | (refine wpTree.take (v := undef) (Or.inr ⟨by rfl, rfl⟩) ?_; simp only [Act.put, List.setIfInBounds_toArray, List.set_cons_zero, List.set_cons_succ]) | (refine wpTree.take (v := .agg t.cells.toArray) (yieldsIf_load_mid rfl 25 _ rfl _ _ rfl t.cells _ (fun _ hS => hS.1) Try.underlying25 rfl (tvinfo t)) ?_; simp only [Act.put, List.setIfInBounds_toArray, List.set_cons_zero, List.set_cons_succ]) | (refine wpTree.take (v := ?_) (Or.inl ⟨by rfl, ?_⟩) ?_; rotate_left; (focus (intro _ hS; (try dsimp only at hS); go_split_ands; (try subst hS); go_simp; (try (with_reducible rfl)); done)); simp only [Act.put, List.setIfInBounds_toArray, List.set_cons_zero, List.set_cons_succ])))
      clear hcc
      refine wpTree.one (fun K hK => ?_)
      go_simp
      go_at_call 22
      refine HNX.out.mono ?_
      rintro e w8 ⟨vN, rfl, hN, hb⟩
      have hb8 : Below wr.heap.size wr w8 := (Below.refl wr.heap.size wr).drew.trans hb
      have HM8 := Lib.hid (HM.out.next hb8)
      have HN8 := Lib.hid (show Nds w8 W.heap.size vN (nextL t (n : Nat)) from hN.le HM.out.bel.drew.size)
      refine hK.out _ _ ⟨rng_next HCC.out.1 hb8, cell_next hb8 HCC.out.2⟩ (fun _ => ?_)
      clear hK K hHeld hb hb8 hN HNX HM HCC
      (try simp only [Act.put, List.setIfInBounds_toArray, List.set_cons_zero, List.set_cons_succ])
      (repeat (first | (refine wpTree.take (v := undef) (Or.inr ⟨by rfl, rfl⟩) ?_; simp only [Act.put, List.setIfInBounds_toArray, List.set_cons_zero, List.set_cons_succ]) | (refine wpTree.take (v := ?_) (Or.inl ⟨by rfl, ?_⟩) ?_; rotate_left; (focus (intro _ hS; (try dsimp only at hS); go_split_ands; (try subst hS); go_simp; (try (with_reducible rfl)); done)); simp only [Act.put, List.setIfInBounds_toArray, List.set_cons_zero, List.set_cons_succ])))
      refine wpTree.done ?_
      obtain ⟨N, hN⟩ : ∃ N, N = nextL t (n : Nat) := ⟨_, rfl⟩
      rw [← hN] at HN8
      have HNN := Lib.hid (show (∀ m : Nat, m ∈ N ↔ joinN t n m = true) ∧ N.length ≤ 12 from ⟨fun m => by
        rw [hN]
        show m ∈ nextL t (n : Nat) ↔ jnB t (n : Nat) (m : Nat) = true
        rw [← next_mem t (n : Nat) (m : Nat)]
        exact ⟨fun h => ⟨m, h, rfl⟩, fun ⟨k, h1, h2⟩ => by rw [show m = k by omega]; exact h1⟩, by rw [hN]; unfold nextL thoseL; exact those_le _ 12⟩)
      obtain ⟨AN, cN, hvN⟩ := HN8.out.shape
      subst hvN
      obtain ⟨nN, hnN⟩ : ∃ k, k = N.length := ⟨_, rfl⟩
      rw [← hnN] at HN8
      (try rw [← hnN])
      have HLN := Lib.hid hnN
      clear hN hnN
      go_upto_region 10 with fail
      go_loopw [10, 12] (fun on k wy => ∃ j : Nat, j ≤ nN ∧ k = .int .i64 j ∧ ∃ b : Bool, on = .bool b ∧ (b = true ∨ (n ∉ H ∧ ∀ m ∈ N.take j, Bey (joinN t) n m s ∨ ∀ h ∈ H, ¬ Bey (joinN t) n m h)) ∧ LM W wy gx t (.slice (some ⟨q, qo, none⟩) nO cl) O (.slice Ah nH ch) H ∧ Nds wy W.heap.size (.slice AN nN cN) N) (fun _ k _ => nN - (intOf k).toNat)
      case atStart => exact ⟨0, Nat.zero_le _, rfl, b0, rfl, HB0.out.imp id (fun h => ⟨h, by simp⟩), HM8.out, HN8.out⟩
      case round =>
        clear HM8 HN8
        obtain ⟨k, hk, rfl, b, rfl, hB, hM, hN⟩ := hrel
        have HM := Lib.hid hM
        have HNd := Lib.hid hN
        have HBB := Lib.hid hB
        clear hM hN hB i1 i2
        by_cases hlt : k < nN
        · have i1 : (k : Int) < (nN : Nat) := by omega
          have i2 : ¬ (k : Int) < 0 := by omega
          have i3 : ¬ (j : Int) < 0 := by omega
          have i4 : (j : Int) < (nO : Nat) := by have := HJ.out; omega
          obtain ⟨kk, hkk⟩ : ∃ kk, kk = k + 1 := ⟨_, rfl⟩
          have HWk := Lib.hid (wrap_n k kk hkk (by have := HLN.out; have := HNN.out; omega))
          have HK := Lib.hid (And.intro hkk hlt)
          obtain ⟨m, hm⟩ : ∃ m, N[k]? = some m := ⟨_, List.getElem?_eq_getElem (by rw [← HLN.out]; exact hlt)⟩
          have HMt := Lib.hid (show N.take (k + 1) = N.take k ++ [m] by rw [List.take_add_one, hm]; rfl)
          obtain ⟨q2, qo2, qc2, ev2, _, cm2⟩ := HNd.out.at_ hm
          simp only [Value.slice.injEq] at ev2
          obtain ⟨rfl, -, rfl⟩ := ev2
          have cm : wr.cell? ⟨q, qo + j, none⟩ = some (.int .i64 (n : Nat)) := by
            obtain ⟨q9, qo9, qc9, ev9, _, cm9⟩ := HM.out.rl.at_ HAL.out.2
            simp only [Value.slice.injEq, Option.some.injEq, Addr.mk.injEq, and_true] at ev9
            obtain ⟨⟨rfl, rfl⟩, _⟩ := ev9
            exact cm9
          have HBY := Lib.hid (beyond_nat wr.drew t (HR.out.next HM.out.bel.drew) HLE.out n m)
          have hcc : wr.rangeAt gx 0 t.cells ∧ wr.cell? ⟨q, qo + j, none⟩ = some (.int .i64 (n : Nat)) ∧ wr.cell? ⟨q2, qo2 + k, none⟩ = some (.int .i64 (m : Nat)) := ⟨HM.out.bx.range, cm, cm2⟩
          have HCC := Lib.hid hcc
          clear hk hlt hkk hm
          go_upto_region 12 with fail
          clear cm cm2
          refine wp_region_tree (S := (fun w' => w'.rangeAt gx 0 t.cells ∧ w'.cell? ⟨q, qo + j, none⟩ = some (.int .i64 (n : Nat)) ∧ w'.cell? ⟨q2, qo2 + k, none⟩ = some (.int .i64 (m : Nat)))) (.take 0 (.take 1 (.take 2 (.take 3 (.take 4 (.take 5 (.take 6 (.take 7 (.take 8 (.one 9 (.take 10 .nil))))))))))) 9999 (by kernel_rfl) (by kernel_rfl) (by kernel_rfl) (by kernel_rfl) (by kernel_rfl) (fun _ _ d _ _ h => by cases d <;> exact h) hcc (fun hHeld => ?_); simp only [Tree.map, List.getElem?_toArray, List.getElem?_cons_zero, List.getElem?_cons_succ]
          (repeat (first | (refine wpTree.take (v := undef) (Or.inr ⟨by rfl, rfl⟩) ?_; simp only [Act.put, List.setIfInBounds_toArray, List.set_cons_zero, List.set_cons_succ]) | (refine wpTree.take (v := .agg t.cells.toArray) (yieldsIf_load_mid rfl 25 _ rfl _ _ rfl t.cells _ (fun _ hS => hS.1) Try.underlying25 rfl (tvinfo t)) ?_; simp only [Act.put, List.setIfInBounds_toArray, List.set_cons_zero, List.set_cons_succ]) | (refine wpTree.take (v := ?_) (Or.inl ⟨by rfl, ?_⟩) ?_; rotate_left; (focus (intro _ hS; (try dsimp only at hS); go_split_ands; (try subst hS); go_simp; (try (with_reducible rfl)); done)); simp only [Act.put, List.setIfInBounds_toArray, List.set_cons_zero, List.set_cons_succ])))
          clear hcc
          refine wpTree.one (fun K hK => ?_)
          go_simp
          go_at_call 23
          refine HBY.out.mono ?_
          rintro e w9 ⟨vB, bl, rfl, hN, hbl, hmem, -, hb⟩
          have hb9 : Below wr.heap.size wr w9 := (Below.refl wr.heap.size wr).drew.trans hb
          have HM9 := Lib.hid (HM.out.next hb9)
          have HNd9 := Lib.hid (HNd.out.next hb9)
          have HBL := Lib.hid (show Nds w9 W.heap.size vB bl from hN.le HM.out.bel.drew.size)
          have HBM := Lib.hid (And.intro hbl hmem)
          refine hK.out _ _ ⟨rng_next HCC.out.1 hb9, cell_next hb9 HCC.out.2.1, cell_next hb9 HCC.out.2.2⟩ (fun _ => ?_)
          clear hK K hHeld hb hb9 hN hbl hmem HBY HM HNd HCC
          (try simp only [Act.put, List.setIfInBounds_toArray, List.set_cons_zero, List.set_cons_succ])
          (repeat (first | (refine wpTree.take (v := undef) (Or.inr ⟨by rfl, rfl⟩) ?_; simp only [Act.put, List.setIfInBounds_toArray, List.set_cons_zero, List.set_cons_succ]) | (refine wpTree.take (v := ?_) (Or.inl ⟨by rfl, ?_⟩) ?_; rotate_left; (focus (intro _ hS; (try dsimp only at hS); go_split_ands; (try subst hS); go_simp; (try (with_reducible rfl)); done)); simp only [Act.put, List.setIfInBounds_toArray, List.set_cons_zero, List.set_cons_succ])))
          refine wpTree.done ?_
          obtain ⟨AB, cB, hvB⟩ := HBL.out.shape
          subst hvB
          obtain ⟨nB, hnB⟩ : ∃ k, k = bl.length := ⟨_, rfl⟩
          rw [← hnB] at HBL
          (try rw [← hnB])
          have HLB := Lib.hid hnB
          have HIS := Lib.hid (in_any w9 (A := AB) (l := bl) HBL.out.rd nB cB hnB (by have := HBM.out.1; omega) (s : Nat))
          clear hnB i3 i4
          by_cases hsb : s ∈ bl
          · rw [has_nat.2 hsb] at HIS
            have HSB := Lib.hid ((HBM.out.2 s).1 hsb)
            clear hsb
            go_wp2_with (go_at_call 28; refine HIS.out.mono ?_; rintro e w10 ⟨rfl, rfl⟩; clear HIS)
            rw [HWk.out]
            go_roundw
            case rel => exact ⟨kk, by have := HK.out; omega, rfl, b, rfl, HBB.out.imp id (fun h => ⟨h.1, fun m' hm' => by
              rw [HK.out.1, HMt.out] at hm'
              rcases List.mem_append.1 hm' with h2 | h2
              · exact h.2 m' h2
              · rw [List.mem_singleton.1 h2]; exact .inl HSB.out⟩), HM9.out, HNd9.out⟩
            case measure => have := HK.out; simp [intOf]; omega
          · have HSN := Lib.hid hsb
            have e0 : hasB bl (s : Nat) = false := by
              cases h : hasB bl (s : Nat) with
              | false => rfl
              | true => exact absurd (has_nat.1 h) hsb
            rw [e0] at HIS
            clear hsb e0
            go_upto_region 15 with (go_at_call 28; refine HIS.out.mono ?_; rintro e w10 ⟨rfl, rfl⟩; clear HIS)
            clear i1 i2
            go_loopw [10, 14] (fun on l wz => ∃ j : Nat, j ≤ nH ∧ l = .int .i64 j ∧ ∃ b' : Bool, on = .bool b' ∧ (b' = true ∨ (b = false ∧ ∀ h ∈ H.take j, h ∉ bl)) ∧ LM W wz gx t (.slice (some ⟨q, qo, none⟩) nO cl) O (.slice Ah nH ch) H ∧ Nds wz W.heap.size (.slice (some ⟨q2, qo2, none⟩) nN cN) N ∧ Nds wz W.heap.size (.slice AB nB cB) bl) (fun _ l _ => nH - (intOf l).toNat)
            case atStart => exact ⟨0, Nat.zero_le _, rfl, b, rfl, by cases b with | true => exact .inl rfl | false => exact .inr ⟨rfl, by simp⟩, HM9.out, HNd9.out, HBL.out⟩
            case round =>
              clear HM9 HNd9 HBL
              obtain ⟨l, hl, rfl, b', rfl, hB', hM, hN, hB⟩ := hrel
              have HM := Lib.hid hM
              have HNd := Lib.hid hN
              have HBd := Lib.hid hB
              have HBB' := Lib.hid hB'
              clear hM hN hB hB'
              by_cases hlt : l < nH
              · have i1 : (l : Int) < (nH : Nat) := by omega
                have i2 : ¬ (l : Int) < 0 := by omega
                obtain ⟨ll, hll⟩ : ∃ ll, ll = l + 1 := ⟨_, rfl⟩
                have HWl := Lib.hid (wrap_n l ll hll (by have := HNO.out; have := HH.out; omega))
                have HL := Lib.hid (And.intro hll hlt)
                obtain ⟨h, hh⟩ : ∃ h, H[l]? = some h := ⟨_, List.getElem?_eq_getElem (by rw [← HNO.out.2]; exact hlt)⟩
                have HHt := Lib.hid (show H.take (l + 1) = H.take l ++ [h] by rw [List.take_add_one, hh]; rfl)
                obtain ⟨q3, qo3, qc3, ev3, _, cm3⟩ := HM.out.rh.at_ hh
                simp only [Value.slice.injEq] at ev3
                obtain ⟨rfl, -, rfl⟩ := ev3
                clear hl hlt hll hh
                cases b' with
                | true =>
                  go_wp2_with fail
                  rw [HWl.out]
                  go_roundw
                  case rel => exact ⟨ll, by have := HL.out; omega, rfl, true, rfl, .inl rfl, HM.out, HNd.out, HBd.out⟩
                  case measure => have := HL.out; simp [intOf]; omega
                | false =>
                  have HIH := Lib.hid (in_any wr (A := AB) (l := bl) HBd.out.rd nB cB HLB.out (by have := HBM.out.1; omega) (h : Nat))
                  obtain ⟨b2, hb2⟩ : ∃ b2, b2 = hasB bl (h : Nat) := ⟨_, rfl⟩
                  rw [← hb2] at HIH
                  have HB2 := Lib.hid hb2
                  clear hb2
                  go_wp2_with (go_at_call 28; refine HIH.out.mono ?_; rintro e w11 ⟨rfl, rfl⟩; clear HIH)
                  rw [HWl.out]
                  go_roundw
                  case rel => exact ⟨ll, by have := HL.out; omega, rfl, b2, rfl, by
                    cases hb : b2 with
                    | true => exact .inl rfl
                    | false =>
                      have hx := HBB'.out.resolve_left (by decide)
                      refine .inr ⟨hx.1, fun h' hh' => ?_⟩
                      rw [HL.out.1, HHt.out] at hh'
                      rcases List.mem_append.1 hh' with h2 | h2
                      · exact hx.2 h' h2
                      · rw [List.mem_singleton.1 h2]
                        intro h3
                        have := HB2.out
                        rw [has_nat.2 h3, hb] at this
                        exact Bool.noConfusion this, HM.out, HNd.out, HBd.out⟩
                  case measure => have := HL.out; simp [intOf]; omega
              · have i1 : ¬ (l : Int) < (nH : Nat) := by omega
                have HE := Lib.hid (show H.take l = H from List.take_of_length_le (by rw [← HNO.out.2]; omega))
                clear hl hlt
                go_wp2_with fail
                rw [HWk.out]
                go_roundw
                case rel => exact ⟨kk, by have := HK.out; omega, rfl, b', rfl, by
                  cases hb : b' with
                  | true => exact .inl rfl
                  | false =>
                    have hx := HBB'.out.resolve_left (by rw [hb]; decide)
                    have hy := HBB.out.resolve_left (by rw [hx.1]; decide)
                    refine .inr ⟨hy.1, fun m' hm' => ?_⟩
                    rw [HK.out.1, HMt.out] at hm'
                    rcases List.mem_append.1 hm' with h2 | h2
                    · exact hy.2 m' h2
                    · rw [List.mem_singleton.1 h2]
                      refine .inr fun h hh hbey => hx.2 h (by rw [HE.out]; exact hh) ((HBM.out.2 h).2 hbey), HM.out, HNd.out⟩
                case measure => have := HK.out; simp [intOf]; omega
        · have i1 : ¬ (k : Int) < (nN : Nat) := by omega
          have hbt : b = true := by
            refine HBB.out.resolve_right fun hx => ?_
            rcases HON.out with h | ⟨m, h1, h2, h, hh, h3⟩
            · exact hx.1 h
            · have hin : m ∈ N.take k := by
                rw [List.take_of_length_le (by rw [← HLN.out]; omega)]
                exact (HNN.out.1 m).2 h1
              rcases hx.2 m hin with h4 | h4
              · exact h2 h4
              · exact h4 h hh h3
          subst hbt
          clear hk hlt
          go_wp2_with fail
          rw [HW.out]
          go_roundw
          case rel => exact ⟨jj, by have := HJ.out; omega, rfl, HM.out⟩
          case measure => have := HJ.out; simp [intOf]; omega
    · have i1 : ¬ (j : Int) < (nO : Nat) := by omega
      clear hj hlt
      have HAL := Lib.hid (alive19_any wr)
      go_wp2_with ((go_at_call 26; refine HAL.out.mono ?_; rintro e w6 ⟨rfl, hb⟩; have HB6 := Lib.hid (HM.out.bel.trans (hb.mono HM.out.bel.size)); clear hb HAL))
      go_ret
      exact ⟨rfl, HB6.out⟩
end Tr
end Go.Proofs.Ytopkfmamjlkjiaa

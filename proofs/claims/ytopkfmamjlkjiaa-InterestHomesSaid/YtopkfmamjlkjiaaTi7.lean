/-
interest: InterestHomes, walked.
-/
import Derived.Test.YtopkfmamjlkjiaaTi4
namespace Go.Proofs.Ytopkfmamjlkjiaa
open Go.RowKit
set_option linter.unusedSimpArgs false
set_option linter.unusedVariables false
namespace Tr
theorem homes_be {t : Tv} {cart : Int} {a : Nat} {O : List Nat} (ha : a ∈ homesL t cart) (h : (RightP t false ∧ O = []) ∨ (RightP t true ∧ ReachP t (a : Nat) cart O)) (hr : RightP t true) : BE (joinN t) (twP t cart) a O := by
  rcases h with ⟨h, -⟩ | ⟨-, ⟨h, -⟩ | ⟨-, h⟩⟩
  · exact absurd (right_uniq h hr) (by decide)
  · rw [home_there ha] at h; cases h
  · rw [Int.toNat_natCast] at h; exact h
theorem be_len {t : Tv} {cart : Int} {s : Nat} {O : List Nat} (h : BE (joinN t) (twP t cart) s O) : O.length ≤ 12 :=
  Nat.le_trans (nodup_len (m := thoseL fun _ => true) (List.nodup_cons.1 h.nd).2 fun n hn => those_mem.2 ⟨by have := there_in (h.mem hn).2; omega, by have := there_in (h.mem hn).2; omega, rfl⟩) (those_le _ 12)
/-- A tree's box and a row. -/
structure BM (W w : World) (gx : Nat) (t : Tv) (v : Value) (O : List Nat) : Prop where
  bx : Blk w gx 25 t.cells.toArray
  rl : Nds w W.heap.size v O
  bel : Below W.heap.size W w
theorem BM.next {W w w' : World} {gx : Nat} {t : Tv} {v : Value} {O : List Nat} (h : BM W w gx t v O) (hb : Below w.heap.size w w') : BM W w' gx t v O :=
  ⟨h.bx.next hb, h.rl.next hb, h.bel.trans (hb.mono h.bel.size)⟩
set_option maxRecDepth 20000 in
set_option maxHeartbeats 16000000 in
theorem homes_walk (W : World) (t : Tv) (hr : RowsOf ec 2 W t.A t.es) (node frm cart : Int) (hc9 : cart ≤ 9223372036854775807) :
    Calls Try.prog 8 #[.agg t.cells.toArray, .int .i64 node, .int .i64 frm, .int .i64 cart] W fun e W' => e = .returned (.bool true) ∧ Below W.heap.size W W' := by
  have HR := Lib.hid hr
  have HC9 := Lib.hid hc9
  have bb := (Below.refl W.heap.size W).alloc (Nat.le_refl _) (.cells t.cells.toArray 25)
  have hx : Blk (W.alloc (.cells t.cells.toArray 25)) W.heap.size 25 t.cells.toArray := Blk.new W _ _
  obtain ⟨w2, hw2⟩ : ∃ w2, w2 = W.alloc (.cells t.cells.toArray 25) := ⟨_, rfl⟩
  rw [← hw2] at bb hx
  have HB2 := Lib.hid bb
  have HX2 := Lib.hid hx
  have hr0 : w2.rangeAt W.heap.size 0 t.cells := hx.range
  clear bb hx hr hc9
  obtain ⟨bt, hbt⟩ := right_ex t
  have HBT := Lib.hid hbt
  have HG := Lib.hid (great_any w2 t)
  clear hbt
  go_enter Try.func8, Try.ntmps8
  go_upto_region 1 with fail
  rw [← hw2]
  clear hw2
  obtain ⟨gx, hgx⟩ : ∃ gx, gx = W.heap.size := ⟨_, rfl⟩
  rw [← hgx] at HX2 hr0
  (try rw [← hgx])
  clear hgx
  cases hG : decide (20 < t.es.length) with
  | true =>
    rw [hG] at HG
    go_wp2_with (first | (refine load_midg rfl 25 _ rfl _ _ rfl t.cells _ hr0 Try.underlying25 rfl (tvinfo t) ?_; (try simp only [Act.put, List.setIfInBounds_toArray, List.set_cons_zero, List.set_cons_succ])) | (go_at_call 11; refine HG.out.mono ?_; rintro e w3 ⟨rfl, hb⟩; have HB3 := Lib.hid (HB2.out.trans (hb.mono HB2.out.size)); have HX3 := Lib.hid (HX2.out.next hb); have hr0 := HX3.out.range; have HAL := Lib.hid (alive19_any w3); clear hb HG) | (go_at_call 26; refine HAL.out.mono ?_; rintro e w6 ⟨rfl, hb⟩; have HB6 := Lib.hid (HB3.out.trans (hb.mono HB3.out.size)); clear hb HAL))
    go_ret
    exact ⟨rfl, HB6.out⟩
  | false =>
  rw [hG] at HG
  have HLE := Lib.hid (show t.es.length ≤ 1000000 by have := of_decide_eq_false hG; omega)
  clear hG
  cases bt with
  | false =>
    go_wp2_with (first | (refine load_midg rfl 25 _ rfl _ _ rfl t.cells _ hr0 Try.underlying25 rfl (tvinfo t) ?_; (try simp only [Act.put, List.setIfInBounds_toArray, List.set_cons_zero, List.set_cons_succ])) | (go_at_call 11; refine HG.out.mono ?_; rintro e w3 ⟨rfl, hb⟩; have HB3 := Lib.hid (HB2.out.trans (hb.mono HB2.out.size)); have HX3 := Lib.hid (HX2.out.next hb); have hr0 := HX3.out.range; have HRI := Lib.hid (right_is w3 (HR.out.next HB3.out) HLE.out HBT.out); have HAL := Lib.hid (alive19_any w3); clear hb HG) | (go_at_call 21; refine HRI.out.mono ?_; rintro e w4 ⟨rfl, hb⟩; have HB4 := Lib.hid (HB3.out.trans (hb.mono HB3.out.size)); have HX4 := Lib.hid (HX3.out.next hb); have hr0 := HX4.out.range; have HAL := Lib.hid (alive19_any w4); clear hb HRI) | (go_at_call 26; refine HAL.out.mono ?_; rintro e w6 ⟨rfl, hb⟩; have HB6 := Lib.hid (HB4.out.trans (hb.mono HB4.out.size)); clear hb HAL))
    go_ret
    exact ⟨rfl, HB6.out⟩
  | true =>
  go_upto_region 3 with (first | (refine load_midg rfl 25 _ rfl _ _ rfl t.cells _ hr0 Try.underlying25 rfl (tvinfo t) ?_; (try simp only [Act.put, List.setIfInBounds_toArray, List.set_cons_zero, List.set_cons_succ])) | (go_at_call 11; refine HG.out.mono ?_; rintro e w3 ⟨rfl, hb⟩; have HB3 := Lib.hid (HB2.out.trans (hb.mono HB2.out.size)); have HX3 := Lib.hid (HX2.out.next hb); have hr0 := HX3.out.range; have HRI := Lib.hid (right_is w3 (HR.out.next HB3.out) HLE.out HBT.out); have HAL := Lib.hid (alive19_any w3); clear hb HG) | (go_at_call 21; refine HRI.out.mono ?_; rintro e w4 ⟨rfl, hb⟩; have HB4 := Lib.hid (HB3.out.trans (hb.mono HB3.out.size)); have HX4 := Lib.hid (HX3.out.next hb); have hr0 := HX4.out.range; have HAL := Lib.hid (alive19_any w4); clear hb HRI))
  have HTW := Lib.hid (toward_any w4 t (HR.out.next HB4.out) HLE.out node frm cart HC9.out)
  go_upto_region 4 with (first | (refine load_midg rfl 25 _ rfl _ _ rfl t.cells _ hr0 Try.underlying25 rfl (tvinfo t) ?_; (try simp only [Act.put, List.setIfInBounds_toArray, List.set_cons_zero, List.set_cons_succ])) | (go_at_call 29; refine HTW.out.mono ?_; rintro e w5 ⟨v, O, rfl, hN, hT, hb⟩; have HM := Lib.hid (show BM W w5 gx t v O from ⟨HX4.out.next hb, hN.le HB4.out.size, HB4.out.trans (hb.mono HB4.out.size)⟩); have HTT := Lib.hid hT; clear hb hT hN HTW))
  clear hr0 HX2 HX3 HX4 HB2 HB3 HB4 HAL
  obtain ⟨Al, cl, hv⟩ := HM.out.rl.shape
  subst hv
  obtain ⟨nO, hnO⟩ : ∃ n, n = O.length := ⟨_, rfl⟩
  rw [← hnO] at HM
  (try rw [← hnO])
  have HNO := Lib.hid (show nO = O.length ∧ O.length ≤ 12 from ⟨hnO, Nat.le_trans (nodup_len (m := thoseL fun _ => true) (HTT.out.1.imp fun h => Nat.ne_of_lt h) fun n hn => those_mem.2 ⟨by have := there_in (jn_there ((HTT.out.2 n).1 hn).2.1).2; omega, by have := there_in (jn_there ((HTT.out.2 n).1 hn).2.1).2; omega, rfl⟩) (those_le _ 12)⟩)
  clear hnO
  go_upto_region 5 with fail
  go_loopw [10] (fun i wr => ∃ j : Nat, j ≤ nO ∧ i = .int .i64 j ∧ BM W wr gx t (.slice Al nO cl) O) (fun i _ => nO - (intOf i).toNat)
  case atStart => exact ⟨0, Nat.zero_le _, rfl, HM.out⟩
  case round =>
    clear HM
    obtain ⟨j, hj, rfl, hM⟩ := hrel
    have HM := Lib.hid hM
    clear hM
    by_cases hlt : j < nO
    · have i1 : (j : Int) < (nO : Nat) := by omega
      have i2 : ¬ (j : Int) < 0 := by omega
      obtain ⟨jj, hjj⟩ : ∃ jj, jj = j + 1 := ⟨_, rfl⟩
      have HW := Lib.hid (wrap_n j jj hjj (by have := HNO.out; omega))
      have HJ := Lib.hid (And.intro hjj hlt)
      obtain ⟨n, hn⟩ : ∃ n, O[j]? = some n := ⟨_, List.getElem?_eq_getElem (by rw [← HNO.out.1]; exact hlt)⟩
      obtain ⟨q, qo, qc, ev, _, cm⟩ := HM.out.rl.at_ hn
      simp only [Value.slice.injEq] at ev
      obtain ⟨rfl, -, rfl⟩ := ev
      have hmem := (HTT.out.2 n).1 (List.mem_of_getElem? hn)
      have t2 : (((n : Nat) : Int) == frm) = false := by simpa using hmem.1
      have HWN := Lib.hid hmem.2
      have HNX := Lib.hid (next_any wr.drew t (HR.out.next HM.out.bel.drew) HLE.out node)
      have hcc : wr.rangeAt gx 0 t.cells ∧ wr.cell? ⟨q, qo + j, none⟩ = some (.int .i64 (n : Nat)) := ⟨HM.out.bx.range, cm⟩
      have HCC := Lib.hid hcc
      clear hj hlt hjj hn hmem
      go_upto_region 7 with fail
      clear cm
      refine wp_region_tree (S := (fun w' => w'.rangeAt gx 0 t.cells ∧ w'.cell? ⟨q, qo + j, none⟩ = some (.int .i64 (n : Nat)))) (.take 0 (.take 1 (.take 2 (.take 3 (.take 4 (.take 5 (.take 6 (.take 7 (.take 8 (.take 10 (.take 11 (.take 12 (.take 13 (.one 9 (.one 14 (.take 15 (.take 16 (.take 17 (.take 18 (.take 19 (.take 20 (.take 21 (.take 22 (.take 23 (.take 24 (.one 25 (.take 26 (.take 27 .nil)))))))))))))))))))))))))))) 9999 (by kernel_rfl) (by kernel_rfl) (by kernel_rfl) (by kernel_rfl) (by kernel_rfl) (fun _ _ d _ _ h => by cases d <;> exact h) hcc (fun hHeld => ?_); simp only [Tree.map, List.getElem?_toArray, List.getElem?_cons_zero, List.getElem?_cons_succ]
      (repeat (first | (refine wpTree.take (v := undef) (Or.inr ⟨by rfl, rfl⟩) ?_; simp only [Act.put, List.setIfInBounds_toArray, List.set_cons_zero, List.set_cons_succ]) | (refine wpTree.take (v := .agg t.cells.toArray) (yieldsIf_load_mid rfl 25 _ rfl _ _ rfl t.cells _ (fun _ hS => hS.1) Try.underlying25 rfl (tvinfo t)) ?_; simp only [Act.put, List.setIfInBounds_toArray, List.set_cons_zero, List.set_cons_succ]) | (refine wpTree.take (v := ?_) (Or.inl ⟨by rfl, ?_⟩) ?_; rotate_left; (focus (intro _ hS; (try dsimp only at hS); go_split_ands; (try subst hS); go_simp; (try (with_reducible rfl)); done)); simp only [Act.put, List.setIfInBounds_toArray, List.set_cons_zero, List.set_cons_succ])))
      clear hcc
      refine wpTree.one (fun K hK => ?_)
      go_simp
      go_at_call 22
      refine HNX.out.mono ?_
      rintro e w8 ⟨vN, rfl, hN, hb⟩
      have hb8 : Below wr.heap.size wr w8 := (Below.refl wr.heap.size wr).drew.trans hb
      have HM8 := Lib.hid (HM.out.next hb8)
      have HN8 := Lib.hid (show Nds w8 W.heap.size vN (nextL t node) from hN.le HM.out.bel.drew.size)
      have hc8 : w8.rangeAt gx 0 t.cells ∧ w8.cell? ⟨q, qo + j, none⟩ = some (.int .i64 (n : Nat)) := ⟨rng_next HCC.out.1 hb8, cell_next hb8 HCC.out.2⟩
      have HC8 := Lib.hid hc8
      obtain ⟨AN, cN, hvN⟩ := HN8.out.shape
      subst hvN
      have HIN := Lib.hid (show Calls Try.prog 28 #[.slice AN (nextL t node).length cN, .int .i64 (n : Nat)] w8 fun e W' => e = .returned (.bool true) ∧ W' = w8 by
        have h := in_any w8 (A := AN) (l := nextL t node) HN8.out.rd (nextL t node).length cN rfl (by unfold nextL thoseL; exact Nat.le_trans (those_le _ 12) (by decide)) (n : Nat)
        rw [has_iff.2 ((next_mem t node (n : Nat)).2 HWN.out.1)] at h
        exact h)
      obtain ⟨nN, hnN⟩ : ∃ k, k = (nextL t node).length := ⟨_, rfl⟩
      rw [← hnN] at HIN
      (try rw [← hnN])
      have HWT := Lib.hid (show Calls Try.prog 30 #[.agg t.cells.toArray, .int .i64 node, .int .i64 (n : Nat), .int .i64 cart] w8 fun e W' => e = .returned (.bool true) ∧ Below w8.heap.size w8 W' from (wants_any w8 t (HR.out.next HM8.out.bel) HLE.out node (n : Nat) cart HC9.out).mono (by
        rintro e w' ⟨b, rfl, hb, hbl⟩
        rw [hb.2 HWN.out]
        exact ⟨rfl, hbl⟩))
      refine hK.out _ _ hc8 (fun _ => ?_)
      clear hK K hHeld hb hb8 hN HNX HM HCC HN8 hnN hc8
      (try simp only [Act.put, List.setIfInBounds_toArray, List.set_cons_zero, List.set_cons_succ])
      refine wpTree.one (fun K hK => ?_)
      go_simp
      go_at_call 28
      refine HIN.out.mono ?_
      rintro e w9 ⟨rfl, hw9⟩
      obtain rfl := hw9.symm
      refine hK.out _ _ HC8.out (fun _ => ?_)
      clear hK K HIN hw9
      (try simp only [Act.put, List.setIfInBounds_toArray, List.set_cons_zero, List.set_cons_succ])
      (repeat (first | (refine wpTree.take (v := undef) (Or.inr ⟨by rfl, rfl⟩) ?_; simp only [Act.put, List.setIfInBounds_toArray, List.set_cons_zero, List.set_cons_succ]) | (refine wpTree.take (v := .agg t.cells.toArray) (yieldsIf_load_mid rfl 25 _ rfl _ _ rfl t.cells _ (fun _ hS => hS.1) Try.underlying25 rfl (tvinfo t)) ?_; simp only [Act.put, List.setIfInBounds_toArray, List.set_cons_zero, List.set_cons_succ]) | (refine wpTree.take (v := ?_) (Or.inl ⟨by rfl, ?_⟩) ?_; rotate_left; (focus (intro _ hS; (try dsimp only at hS); go_split_ands; (try subst hS); go_simp; (try (with_reducible rfl)); done)); simp only [Act.put, List.setIfInBounds_toArray, List.set_cons_zero, List.set_cons_succ])))
      refine wpTree.one (fun K hK => ?_)
      go_simp
      go_at_call 30
      refine HWT.out.mono ?_
      rintro e w10 ⟨rfl, hb⟩
      have HM10 := Lib.hid (HM8.out.next hb)
      refine hK.out _ _ ⟨rng_next HC8.out.1 hb, cell_next hb HC8.out.2⟩ (fun _ => ?_)
      clear hK K hb HWT HM8
      (try simp only [Act.put, List.setIfInBounds_toArray, List.set_cons_zero, List.set_cons_succ])
      (repeat (first | (refine wpTree.take (v := undef) (Or.inr ⟨by rfl, rfl⟩) ?_; simp only [Act.put, List.setIfInBounds_toArray, List.set_cons_zero, List.set_cons_succ]) | (refine wpTree.take (v := ?_) (Or.inl ⟨by rfl, ?_⟩) ?_; rotate_left; (focus (intro _ hS; (try dsimp only at hS); go_split_ands; (try subst hS); go_simp; (try (with_reducible rfl)); done)); simp only [Act.put, List.setIfInBounds_toArray, List.set_cons_zero, List.set_cons_succ])))
      refine wpTree.done ?_
      go_wp2_with fail
      rw [HW.out]
      go_roundw
      case rel => exact ⟨jj, by have := HJ.out; omega, rfl, HM10.out⟩
      case measure => have := HJ.out; simp [intOf]; omega
    · have i1 : ¬ (j : Int) < (nO : Nat) := by omega
      clear hj hlt
      obtain ⟨wx, hwx⟩ : ∃ wx, wx = wr := ⟨_, rfl⟩
      have hr0 : wr.rangeAt gx 0 t.cells := HM.out.bx.range
      have HHO := Lib.hid (homes_any wr t cart HC9.out)
      go_upto_region 10 with (first | (refine load_midg rfl 25 _ rfl _ _ rfl t.cells _ hr0 Try.underlying25 rfl (tvinfo t) ?_; (try simp only [Act.put, List.setIfInBounds_toArray, List.set_cons_zero, List.set_cons_succ])) | (go_at_call 25; refine HHO.out.mono ?_; rintro e w6 ⟨vh, rfl, hN, hb⟩; have HM6 := Lib.hid (show BM W w6 gx t vh (homesL t cart) from ⟨HM.out.bx.next hb, hN.le HM.out.bel.size, HM.out.bel.trans (hb.mono HM.out.bel.size)⟩); clear hb hN HHO))
      clear hr0 HM i1 hwx
      obtain ⟨H, hH⟩ : ∃ H, H = homesL t cart := ⟨_, rfl⟩
      rw [← hH] at HM6
      have hare := homes_are t cart
      rw [← hH] at hare
      have HH := Lib.hid hH
      clear hH
      match H, hare with
      | [], _ =>
        obtain ⟨Ah, ch, hvh⟩ := HM6.out.rl.shape
        subst hvh
        have HAL := Lib.hid (alive19_any w6.drew)
        go_upto_region 11 with fail
        refine wp_region_tree (S := (fun w' => w'.rangeAt gx 0 t.cells)) (.one 0 (.take 1 (.take 2 (.take 3 (.take 4 (.take 5 (.take 6 (.take 7 (.take 8 (.take 9 (.take 10 (.take 11 (.take 12 (.take 13 (.take 14 (.take 15 (.take 16 .nil))))))))))))))))) 9999 (by kernel_rfl) (by kernel_rfl) (by kernel_rfl) (by kernel_rfl) (by kernel_rfl) (fun _ _ d _ _ h => by cases d <;> exact h) HM6.out.bx.range (fun hHeld => ?_); simp only [Tree.map, List.getElem?_toArray, List.getElem?_cons_zero, List.getElem?_cons_succ]
        refine wpTree.one (fun K hK => ?_)
        go_simp
        go_at_call 26
        refine HAL.out.mono ?_
        rintro e w7 ⟨rfl, hb⟩
        have hb7 : Below w6.heap.size w6 w7 := (Below.refl w6.heap.size w6).drew.trans hb
        have HB7 := Lib.hid (HM6.out.bel.trans (hb7.mono HM6.out.bel.size))
        refine hK.out _ _ (rng_next HM6.out.bx.range hb7) (fun _ => ?_)
        clear hK K hHeld hb hb7 HAL
        (try simp only [Act.put, List.setIfInBounds_toArray, List.set_cons_zero, List.set_cons_succ])
        (repeat (first | (refine wpTree.take (v := undef) (Or.inr ⟨by rfl, rfl⟩) ?_; simp only [Act.put, List.setIfInBounds_toArray, List.set_cons_zero, List.set_cons_succ]) | (refine wpTree.take (v := ?_) (Or.inl ⟨by rfl, ?_⟩) ?_; rotate_left; (focus (intro _ hS; (try dsimp only at hS); go_split_ands; (try subst hS); go_simp; (try (with_reducible rfl)); done)); simp only [Act.put, List.setIfInBounds_toArray, List.set_cons_zero, List.set_cons_succ])))
        refine wpTree.done ?_
        go_wp2_with fail
        go_ret
        exact ⟨rfl, HB7.out⟩
      | [a], _ =>
        have hain : a ∈ homesL t cart := by rw [← HH.out]; simp
        obtain ⟨q, qo, ch, evh, -, ca⟩ := HM6.out.rl.at_ (i := 0) (n := a) rfl
        subst evh
        have HAL := Lib.hid (alive19_any w6.drew)
        go_upto_region 11 with fail
        have hcc : w6.rangeAt gx 0 t.cells ∧ w6.cell? ⟨q, qo, none⟩ = some (.int .i64 (a : Nat)) := ⟨HM6.out.bx.range, ca⟩
        have HCC := Lib.hid hcc
        clear ca
        refine wp_region_tree (S := (fun w' => w'.rangeAt gx 0 t.cells ∧ w'.cell? ⟨q, qo, none⟩ = some (.int .i64 (a : Nat)))) (.one 0 (.take 1 (.take 2 (.take 3 (.take 4 (.take 5 (.take 6 (.take 7 (.take 8 (.take 9 (.take 10 (.one 11 (.take 12 (.take 13 (.take 14 (.take 15 (.take 16 .nil))))))))))))))))) 9999 (by kernel_rfl) (by kernel_rfl) (by kernel_rfl) (by kernel_rfl) (by kernel_rfl) (fun _ _ d _ _ h => by cases d <;> exact h) hcc (fun hHeld => ?_); simp only [Tree.map, List.getElem?_toArray, List.getElem?_cons_zero, List.getElem?_cons_succ]
        clear hcc
        refine wpTree.one (fun K hK => ?_)
        go_simp
        go_at_call 26
        refine HAL.out.mono ?_
        rintro e w7 ⟨rfl, hb⟩
        have hb7 : Below w6.heap.size w6 w7 := (Below.refl w6.heap.size w6).drew.trans hb
        have hc7 : w7.rangeAt gx 0 t.cells ∧ w7.cell? ⟨q, qo, none⟩ = some (.int .i64 (a : Nat)) := ⟨rng_next HCC.out.1 hb7, cell_next hb7 HCC.out.2⟩
        have HC7 := Lib.hid hc7
        have HB7 := Lib.hid (HM6.out.bel.trans (hb7.mono HM6.out.bel.size))
        have HRE := Lib.hid (ireach_any w7 t (HR.out.next HB7.out) HLE.out (a : Nat) cart HC9.out)
        refine hK.out _ _ hc7 (fun _ => ?_)
        clear hK K hHeld hb hb7 HAL hc7
        (try simp only [Act.put, List.setIfInBounds_toArray, List.set_cons_zero, List.set_cons_succ])
        (repeat (first | (refine wpTree.take (v := undef) (Or.inr ⟨by rfl, rfl⟩) ?_; simp only [Act.put, List.setIfInBounds_toArray, List.set_cons_zero, List.set_cons_succ]) | (refine wpTree.take (v := .agg t.cells.toArray) (yieldsIf_load_mid rfl 25 _ rfl _ _ rfl t.cells _ (fun _ hS => hS.1) Try.underlying25 rfl (tvinfo t)) ?_; simp only [Act.put, List.setIfInBounds_toArray, List.set_cons_zero, List.set_cons_succ]) | (refine wpTree.take (v := ?_) (Or.inl ⟨by rfl, ?_⟩) ?_; rotate_left; (focus (intro _ hS; (try dsimp only at hS); go_split_ands; (try subst hS); go_simp; (try (with_reducible rfl)); done)); simp only [Act.put, List.setIfInBounds_toArray, List.set_cons_zero, List.set_cons_succ])))
        refine wpTree.one (fun K hK => ?_)
        go_simp
        go_at_call 27
        refine HRE.out.mono ?_
        rintro e w8 ⟨vl, Oa, rfl, hN, hP, hb⟩
        have HB8 := Lib.hid (HB7.out.trans (hb.mono HB7.out.size))
        have hO := (homes_be hain hP HBT.out).own HH.out.symm
        subst hO
        obtain ⟨Aa, ca, hva⟩ := hN.shape
        subst hva
        refine hK.out _ _ ⟨rng_next HC7.out.1 hb, cell_next hb HC7.out.2⟩ (fun _ => ?_)
        clear hK K hb hN hP HRE
        (try simp only [Act.put, List.setIfInBounds_toArray, List.set_cons_zero, List.set_cons_succ])
        (repeat (first | (refine wpTree.take (v := undef) (Or.inr ⟨by rfl, rfl⟩) ?_; simp only [Act.put, List.setIfInBounds_toArray, List.set_cons_zero, List.set_cons_succ]) | (refine wpTree.take (v := ?_) (Or.inl ⟨by rfl, ?_⟩) ?_; rotate_left; (focus (intro _ hS; (try dsimp only at hS); go_split_ands; (try subst hS); go_simp; (try (with_reducible rfl)); done)); simp only [Act.put, List.setIfInBounds_toArray, List.set_cons_zero, List.set_cons_succ])))
        refine wpTree.done ?_
        go_wp2_with fail
        go_ret
        exact ⟨rfl, HB8.out⟩
      | a :: b :: c :: r, h => exact absurd h.1 (by simp)
      | [a, b], hare =>
        have hain : a ∈ homesL t cart := by rw [← HH.out]; simp
        have hbin : b ∈ homesL t cart := by rw [← HH.out]; simp
        have HIN := Lib.hid (And.intro hain (And.intro hbin (hare.2.2 a b rfl rfl)))
        obtain ⟨q, qo, ch, evh, -, ca⟩ := HM6.out.rl.at_ (i := 0) (n := a) rfl
        obtain ⟨q', qo', ch', evh', -, cb⟩ := HM6.out.rl.at_ (i := 1) (n := b) rfl
        rw [evh] at evh'
        simp only [Value.slice.injEq, Option.some.injEq, Addr.mk.injEq, and_true, true_and] at evh'
        obtain ⟨⟨rfl, rfl⟩, rfl⟩ := evh'
        subst evh
        have HRE := Lib.hid (ireach_any w6.drew t (HR.out.next HM6.out.bel.drew) HLE.out (a : Nat) cart HC9.out)
        have hcc : w6.rangeAt gx 0 t.cells ∧ w6.cell? ⟨q, qo, none⟩ = some (.int .i64 (a : Nat)) ∧ w6.cell? ⟨q, qo + 1, none⟩ = some (.int .i64 (b : Nat)) := ⟨HM6.out.bx.range, ca, cb⟩
        have HCC := Lib.hid hcc
        clear ca cb hain hbin hare
        go_upto_region 12 with fail
        refine wp_region_tree (S := (fun w' => w'.rangeAt gx 0 t.cells ∧ w'.cell? ⟨q, qo, none⟩ = some (.int .i64 (a : Nat)) ∧ w'.cell? ⟨q, qo + 1, none⟩ = some (.int .i64 (b : Nat)))) (.take 0 (.take 1 (.take 2 (.take 3 (.take 4 (.take 6 (.take 7 (.take 8 (.take 9 (.take 10 (.one 5 (.one 11 (.take 12 (.take 13 .nil)))))))))))))) 9999 (by kernel_rfl) (by kernel_rfl) (by kernel_rfl) (by kernel_rfl) (by kernel_rfl) (fun _ _ d _ _ h => by cases d <;> exact h) hcc (fun hHeld => ?_); simp only [Tree.map, List.getElem?_toArray, List.getElem?_cons_zero, List.getElem?_cons_succ]
        (repeat (first | (refine wpTree.take (v := undef) (Or.inr ⟨by rfl, rfl⟩) ?_; simp only [Act.put, List.setIfInBounds_toArray, List.set_cons_zero, List.set_cons_succ]) | (refine wpTree.take (v := .agg t.cells.toArray) (yieldsIf_load_mid rfl 25 _ rfl _ _ rfl t.cells _ (fun _ hS => hS.1) Try.underlying25 rfl (tvinfo t)) ?_; simp only [Act.put, List.setIfInBounds_toArray, List.set_cons_zero, List.set_cons_succ]) | (refine wpTree.take (v := ?_) (Or.inl ⟨by rfl, ?_⟩) ?_; rotate_left; (focus (intro _ hS; (try dsimp only at hS); go_split_ands; (try subst hS); go_simp; (try (with_reducible rfl)); done)); simp only [Act.put, List.setIfInBounds_toArray, List.set_cons_zero, List.set_cons_succ])))
        clear hcc
        refine wpTree.one (fun K hK => ?_)
        go_simp
        go_at_call 27
        refine HRE.out.mono ?_
        rintro e w7 ⟨va, Oa, rfl, hN, hP, hb⟩
        have hb7 : Below w6.heap.size w6 w7 := (Below.refl w6.heap.size w6).drew.trans hb
        have HB7 := Lib.hid hb7
        have HBA := Lib.hid (homes_be HIN.out.1 hP HBT.out)
        have HNA := Lib.hid (hN.le HM6.out.bel.drew.size)
        have HRE2 := Lib.hid (ireach_any w7 t (HR.out.next (HM6.out.bel.trans (hb7.mono HM6.out.bel.size))) HLE.out (b : Nat) cart HC9.out)
        refine hK.out _ _ ⟨rng_next HCC.out.1 hb7, cell_next hb7 HCC.out.2.1, cell_next hb7 HCC.out.2.2⟩ (fun _ => ?_)
        clear hK K hHeld hb hb7 hN hP HRE
        (try simp only [Act.put, List.setIfInBounds_toArray, List.set_cons_zero, List.set_cons_succ])
        refine wpTree.one (fun K hK => ?_)
        go_simp
        go_at_call 27
        refine HRE2.out.mono ?_
        rintro e w8 ⟨vb, Ob, rfl, hN, hP, hb⟩
        have hb8 : Below w6.heap.size w6 w8 := HB7.out.trans (hb.mono HB7.out.size)
        have HB8 := Lib.hid (HM6.out.bel.trans (hb8.mono HM6.out.bel.size))
        have HBB := Lib.hid (homes_be HIN.out.2.1 hP HBT.out)
        have HNA8 := Lib.hid (HNA.out.next hb)
        have HNB8 := Lib.hid hN
        have hc8 : w8.rangeAt gx 0 t.cells ∧ w8.cell? ⟨q, qo, none⟩ = some (.int .i64 (a : Nat)) ∧ w8.cell? ⟨q, qo + 1, none⟩ = some (.int .i64 (b : Nat)) := ⟨rng_next HCC.out.1 hb8, cell_next hb8 HCC.out.2.1, cell_next hb8 HCC.out.2.2⟩
        have HC8 := Lib.hid hc8
        refine hK.out _ _ hc8 (fun _ => ?_)
        clear hK K hb hb8 hN hP HRE2 HNA HB7 HCC hc8
        (try simp only [Act.put, List.setIfInBounds_toArray, List.set_cons_zero, List.set_cons_succ])
        (repeat (first | (refine wpTree.take (v := undef) (Or.inr ⟨by rfl, rfl⟩) ?_; simp only [Act.put, List.setIfInBounds_toArray, List.set_cons_zero, List.set_cons_succ]) | (refine wpTree.take (v := ?_) (Or.inl ⟨by rfl, ?_⟩) ?_; rotate_left; (focus (intro _ hS; (try dsimp only at hS); go_split_ands; (try subst hS); go_simp; (try (with_reducible rfl)); done)); simp only [Act.put, List.setIfInBounds_toArray, List.set_cons_zero, List.set_cons_succ])))
        refine wpTree.done ?_
        have hab := HIN.out.2.2
        have hHa : homesL t cart = [a, b] ∨ homesL t cart = [b, a] := .inl HH.out.symm
        have hHb : homesL t cart = [b, a] ∨ homesL t cart = [a, b] := .inr HH.out.symm
        have e1 : hasB Oa (b : Nat) = true := has_nat.2 ((List.mem_cons.1 (HBA.out.home HBT.out (home_there HIN.out.1) HIN.out.2.1)).resolve_left (Ne.symm hab))
        have e2 : hasB Ob (a : Nat) = true := has_nat.2 ((List.mem_cons.1 (HBB.out.home HBT.out (home_there HIN.out.2.1) HIN.out.1)).resolve_left hab)
        have e3 : hasB Oa (a : Nat) = false := by
          cases h : hasB Oa (a : Nat) with
          | false => rfl
          | true => exact absurd rfl (HBA.out.mem (has_nat.1 h)).1
        have e4 : hasB Ob (b : Nat) = false := by
          cases h : hasB Ob (b : Nat) with
          | false => rfl
          | true => exact absurd rfl (HBB.out.mem (has_nat.1 h)).1
        have e5 : Oa.length = Ob.length := Nat.le_antisymm (two_len HBT.out hHa hab HBA.out HBB.out) (two_len HBT.out hHb (Ne.symm hab) HBB.out HBA.out)
        have HL := Lib.hid (And.intro (be_len HBA.out) (be_len HBB.out))
        obtain ⟨Aa, ca, hva⟩ := HNA8.out.shape
        obtain ⟨Ab, cb, hvb⟩ := HNB8.out.shape
        subst hva
        subst hvb
        obtain ⟨na, hna⟩ : ∃ k, k = Oa.length := ⟨_, rfl⟩
        rw [← e5, ← hna] at HNB8
        rw [← hna] at HNA8
        (try rw [← e5])
        (try rw [← hna])
        have HAL := Lib.hid (alive19_any w8)
        have i4 : ((na : Int) == (na : Int)) = true := by simp
        have HE := Lib.hid (And.intro e1 (And.intro e2 (And.intro e3 e4)))
        have HNN := Lib.hid (And.intro hna e5)
        clear e1 e2 e3 e4 e5 hHa hHb hab hna
        go_wp2_with (first | (go_at_call 26; refine HAL.out.mono ?_; rintro e w9 ⟨rfl, hb⟩; have HB9 := Lib.hid (HB8.out.trans (hb.mono HB8.out.size)); have c1 := cell_next hb HC8.out.2.1; have c2 := cell_next hb HC8.out.2.2; have HI1 := Lib.hid (in_any w9 (A := Aa) (l := Oa) (HNA8.out.next hb).rd na ca HNN.out.1 (by have := HL.out; omega) (b : Nat)); have HI2 := Lib.hid (in_any w9 (A := Ab) (l := Ob) (HNB8.out.next hb).rd na cb (by rw [← HNN.out.2]; exact HNN.out.1) (by have := HL.out; omega) (a : Nat)); have HI3 := Lib.hid (in_any w9 (A := Aa) (l := Oa) (HNA8.out.next hb).rd na ca HNN.out.1 (by have := HL.out; omega) (a : Nat)); have HI4 := Lib.hid (in_any w9 (A := Ab) (l := Ob) (HNB8.out.next hb).rd na cb (by rw [← HNN.out.2]; exact HNN.out.1) (by have := HL.out; omega) (b : Nat)); rw [HE.out.1] at HI1; rw [HE.out.2.1] at HI2; rw [HE.out.2.2.1] at HI3; rw [HE.out.2.2.2] at HI4; clear hb HAL) | (go_at_call 28; first | (refine HI1.out.mono ?_; rintro e w10 ⟨rfl, hw⟩; obtain rfl := hw.symm; clear HI1) | (refine HI2.out.mono ?_; rintro e w10 ⟨rfl, hw⟩; obtain rfl := hw.symm; clear HI2) | (refine HI3.out.mono ?_; rintro e w10 ⟨rfl, hw⟩; obtain rfl := hw.symm; clear HI3) | (refine HI4.out.mono ?_; rintro e w10 ⟨rfl, hw⟩; obtain rfl := hw.symm; clear HI4)))
        go_ret
        exact ⟨rfl, HB9.out⟩
end Tr
end Go.Proofs.Ytopkfmamjlkjiaa

/-
peers: PeersLive: whatever is asked, a shard's peers are what the document says, and are saved so; such that are nil, or that no call made, say so. Without a condition.
-/
import Derived.Test.YtlceljcplmcjgaaPe16
import Derived.Test.YtlceljcplmcjgaaPe21
import Derived.Test.YtlceljcplmcjgaaPe22
namespace Go.Proofs.Ytlceljcplmcjgaa
open Go.RowKit Go.ChangeShapes Go.WideShapes Go.ChangeAt Go.WideElems
set_option linter.unusedSimpArgs false
set_option linter.unusedVariables false
namespace Pe
/-- A shard's peers beside the document's. -/
structure Twin (W w : World) (p r : Nat) (nd : Int) (x : PS) : Prop where
  hp : PP w W.heap.size p x
  hr : RP w W.heap.size r x
  ne : p ≠ r
  b : Below W.heap.size W w
  ok : x.Ok
  n : x.n = nd
theorem found_n (x : PS) (n : Int) : (x.foundF n).2.n = x.n := by
  unfold PS.foundF; split
  · split
    · exact set_n _ _ _
    · rfl
  · rfl
theorem doF_n (x : PS) (o : Op4) : (x.doF o).2.n = x.n := by
  have hA : (x.askedF o.s o.n).2.n = x.n := by unfold PS.askedF; split <;> rfl
  have hL : (x.leavingF o.s o.n).2.n = x.n := by unfold PS.leavingF; split <;> rfl
  have hT : ∀ a t, (x.toldF o.s o.n a t).2.n = x.n := fun a t => by
    unfold PS.toldF; split
    · exact set_n _ _ _
    · rfl
  have hJ : (x.joinF o.s o.n).2.n = x.n := by
    unfold PS.joinF
    split
    · split
      · split
        · exact set_n _ _ _
        · rfl
      · rfl
    · rfl
  have hV : (x.leaveF o.s).2.n = x.n := by
    unfold PS.leaveF
    split
    · split
      · rfl
      · split
        · rfl
        · split
          · exact set_n _ _ _
          · rfl
    · rfl
  unfold PS.doF
  split
  · exact found_n _ _
  · split
    · exact hJ
    · split
      · exact hA
      · split
        · exact hT _ _
        · split
          · exact hV
          · split
            · exact hL
            · split
              · exact hT _ _
              · rfl
section
variable {W w w' : World} {p r : Nat} {nd : Int} {x : PS}
theorem Twin.next (h : Twin W w p r nd x) (hb : Below w.heap.size w w') : Twin W w' p r nd x := ⟨h.hp.next hb, h.hr.next hb, h.ne, h.b.trans (hb.mono h.b.size), h.ok, h.n⟩
end
theorem conv_made {W w : World} {v : Value} {bs : List Nat} (hM : Nd.Made W w v bs) (h256 : ∀ y ∈ bs, y < 256) : ∀ w', Below w.heap.size w w' → (convert 42 9 v).run Try.prog w' = .ok (.string (Byt.bstr bs)) w' := fun w' hb => by
  have ho : w'.ownsRow W.heap.size 5 1 v bs.length (Byt.u8s bs) := (made_next hM hb).1
  obtain ⟨A, c, rfl, _, hby, hA⟩ := Byt.own_byr ho
  exact Byt.conv_src w' A _ c bs (hby.src hA) rfl h256
theorem zc157 : Try.zeroCells50 = (PS.new 0).cells.toArray := by
  rw [z157]
  first | rfl | decide +kernel
theorem ofL0 : (PS.new 0).ofL 1 = [] := by decide +kernel
set_option maxHeartbeats 16000000 in
set_option maxRecDepth 20000 in
theorem live_no (W : World) (nd : Int) (hn : numB nd = false) (v : Value) (ask : Int) :
    Calls Try.prog 3 #[.int .i64 nd, v, .int .i64 ask] W fun e W' => e = .returned (.bool true) ∧ Below W.heap.size W W' := by
  have HN := Lib.hid (new_not W nd hn)
  have HAL := Lib.hid (alive_any W)
  rcases num_not hn with i1 | ⟨i1, i2⟩
  all_goals
    clear hn
    go_enter Try.func3, Try.ntmps3
    go_upto_region 2 with (go_at_call 7; refine HN.out.mono ?_; rintro e w1 ⟨rfl, rfl⟩; clear HN)
    go_wp2_with (go_at_call 8; refine HAL.out.mono ?_; rintro e wz ⟨rfl, hb⟩; have HWZ := Lib.hid hb; clear hb)
    go_ret
    exact ⟨rfl, HWZ.out⟩
set_option maxHeartbeats 32000000 in
set_option maxRecDepth 20000 in
theorem live_yes (W : World) (nd : Int) (hn : numB nd = true) (A : Option Addr) (n c : Nat) (l : List Op4) (ask : Int) (hl : l.length = n) (hr : RowsOf Op4.cells 4 W A l) :
    Calls Try.prog 3 #[.int .i64 nd, .slice A n c, .int .i64 ask] W fun e W' => e = .returned (.bool true) ∧ Below W.heap.size W W' := by
  have HN := Lib.hid (new_yes W nd hn)
  have HL := Lib.hid hl
  have HR := Lib.hid hr
  have hnn := num_in.1 hn
  have HOK := Lib.hid (PS.new_ok hnn.1 hnn.2)
  have i1 : ¬ nd < 1 := by omega
  have i2 : ¬ 12 < nd := by omega
  have HRB := Lib.hid (rbuilt nd)
  clear hl hr hn hnn
  go_enter Try.func3, Try.ntmps3
  go_upto_region 2 with (go_at_call 7; refine HN.out.mono ?_; rintro e w1 ⟨rfl, hp, hb, -⟩; have HP1 := Lib.hid hp; have HB1 := Lib.hid hb; clear hp hb HN)
  go_upto_region 6 with fail
  clear i1 i2
  go_upto_region 7 with (refine Nd.wpList_build_lit (PS.new nd).rcells.toArray rfl 33 _ rfl HRB.out ?_)
  have b2 := (Below.refl w1.heap.size w1).alloc (Nat.le_refl _) (.cells (PS.new nd).rcells.toArray 33)
  have hT : Twin W (w1.alloc (.cells (PS.new nd).rcells.toArray 33)) W.heap.size w1.heap.size nd (PS.new nd) := ⟨HP1.out.next b2, ⟨Blk.new _ _ _, HB1.out.size⟩, by have := HP1.out.lt; omega, HB1.out.trans (b2.mono HB1.out.size), HOK.out, rfl⟩
  obtain ⟨w2, hw2⟩ : ∃ w2, w2 = w1.alloc (.cells (PS.new nd).rcells.toArray 33) := ⟨_, rfl⟩
  obtain ⟨p, hp⟩ : ∃ p, p = W.heap.size := ⟨_, rfl⟩
  obtain ⟨r, hr⟩ : ∃ r, r = w1.heap.size := ⟨_, rfl⟩
  have HT := Lib.hid (show Twin W w2 p r nd (PS.new nd) by rw [hp, hr, hw2]; exact hT)
  rw [← hp, ← hr, ← hw2]
  clear hT b2 hw2 hp hr HP1 HB1 HRB HOK
  go_upto_region 8 with fail
  go_loopw [10] (fun i wr => ∃ j : Nat, j ≤ 100 ∧ i = .int .i64 j ∧ ∃ x, Twin W wr p r nd x) (fun i _ => 100 - (intOf i).toNat)
  case atStart => exact ⟨0, by omega, rfl, _, HT.out⟩
  case round =>
    clear HT
    obtain ⟨j, hj, rfl, x, hT⟩ := hrel
    have HT := Lib.hid hT
    clear hT
    by_cases hjl : j < n ∧ j < 100
    · obtain ⟨o, ho⟩ : ∃ o, l[j]? = some o := ⟨_, List.getElem?_eq_getElem (by rw [HL.out]; exact hjl.1)⟩
      have i1 : (j : Int) < (n : Nat) := by omega
      have i2 : (j : Int) < 100 := by omega
      have i3 : ¬ (j : Int) < 0 := by omega
      obtain ⟨b, of, rfl, hbl, hrx⟩ := op_row HR.out HT.out.b ho
      have HSR := Lib.hid (op_row2 HR.out rfl ho)
      have HJL := Lib.hid hjl
      have HW := Lib.hid (Nd.wrap_n j (j + 1) rfl (by omega))
      clear ho hjl hj
      go_upto_region 10 with fail
      obtain ⟨rr, hrr⟩ : ∃ rr, rr = (x.doF o).1 := ⟨_, rfl⟩
      obtain ⟨y, hy⟩ : ∃ y, y = (x.doF o).2 := ⟨_, rfl⟩
      have HY := Lib.hid (show y.Ok ∧ y.n = nd by rw [hy]; exact ⟨do_ok HT.out.ok o, by rw [doF_n, HT.out.n]⟩)
      have hbd := (Below.refl wr.heap.size wr).drew
      have HDO1 := Lib.hid (do_any wr.drew (HT.out.next hbd).hp HT.out.ok o)
      have HRW := Lib.hid (HT.out.next hbd)
      rw [← hrr, ← hy] at HDO1
      have HDO2 := Lib.hid (fun w (h : RP w W.heap.size r x) => by have := should_any w h HT.out.ok o; rw [← hrr, ← hy] at this; exact this)
      clear hrr hy hbd
      refine wp_region_tree (S := (fun w' => w'.rangeAt b (of + j * 4) o.cells)) (.take 0 (.take 1 (.take 2 (.take 3 (.take 4 (.take 6 (.take 7 (.take 8 (.take 9 (.take 10 (.one 5 (.one 11 (.take 12 (.take 13 .nil)))))))))))))) 9999 (by kernel_rfl) (by kernel_rfl) (by kernel_rfl) (by kernel_rfl) (by kernel_rfl) (fun _ _ d _ _ h => by cases d <;> exact h) hrx (fun hHeld => ?_); simp only [Tree.map, List.getElem?_toArray, List.getElem?_cons_zero, List.getElem?_cons_succ]
      (repeat (first | (refine wpTree.take (v := undef) (Or.inr ⟨by rfl, rfl⟩) ?_; simp only [Act.put, List.setIfInBounds_toArray, List.set_cons_zero, List.set_cons_succ]) | (refine wpTree.take (v := .agg o.cells.toArray) (yieldsIf_load_mid rfl 36 _ rfl _ _ rfl o.cells _ (fun _ hS => hS) Try.underlying36 rfl (opinfo o)) ?_; simp only [Act.put, List.setIfInBounds_toArray, List.set_cons_zero, List.set_cons_succ]) | (refine wpTree.take (v := ?_) (Or.inl ⟨by rfl, ?_⟩) ?_; rotate_left; (focus (intro _ hS; (try dsimp only at hS); go_split_ands; (try subst hS); go_simp; (try (with_reducible rfl)); done)); simp only [Act.put, List.setIfInBounds_toArray, List.set_cons_zero, List.set_cons_succ])))
      refine wpTree.one (fun K hK => ?_)
      go_simp
      go_at_call 9
      refine HDO1.out.mono ?_
      rintro e w6 ⟨rfl, hp, ht⟩
      have HP6 := Lib.hid hp
      have HR6 := Lib.hid (ht.rp HRW.out.hr HRW.out.ne.symm)
      have HB6 := Lib.hid (HRW.out.b.trans ht.1)
      refine hK.out _ _ (HSR.out _ HB6.out) (fun _ => ?_)
      clear hK K hHeld hp ht HDO1 hrx
      (try simp only [Act.put, List.setIfInBounds_toArray, List.set_cons_zero, List.set_cons_succ])
      have HDO3 := Lib.hid (HDO2.out w6 HR6.out)
      refine wpTree.one (fun K hK => ?_)
      go_simp
      go_at_call 10
      refine HDO3.out.mono ?_
      rintro e w7 ⟨rfl, hr, ht⟩
      have HT7 := Lib.hid (show Twin W w7 p r nd y from ⟨ht.pp HP6.out HRW.out.ne, hr, HRW.out.ne, HB6.out.trans ht.1, HY.out.1, HY.out.2⟩)
      refine hK.out _ _ (HSR.out _ HT7.out.b) (fun _ => ?_)
      clear hK K hr ht HDO2 HDO3 HP6 HR6 HB6 HRW HSR HT
      (try simp only [Act.put, List.setIfInBounds_toArray, List.set_cons_zero, List.set_cons_succ])
      (repeat (first | (refine wpTree.take (v := undef) (Or.inr ⟨by rfl, rfl⟩) ?_; simp only [Act.put, List.setIfInBounds_toArray, List.set_cons_zero, List.set_cons_succ]) | (refine wpTree.take (v := ?_) (Or.inl ⟨by rfl, ?_⟩) ?_; rotate_left; (focus (intro _ hS; (try dsimp only at hS); go_split_ands; (try subst hS); go_simp; (try (with_reducible rfl)); done)); simp only [Act.put, List.setIfInBounds_toArray, List.set_cons_zero, List.set_cons_succ])))
      refine wpTree.done ?_
      clear i1 i2
      have HO1 := Lib.hid (of_any w7 HT7.out.hp ask)
      obtain ⟨L, hL⟩ : ∃ L, L = y.ofL ask := ⟨_, rfl⟩
      have HLE := Lib.hid (show L.length ≤ 12 by rw [hL]; exact Nd.those_le _ _)
      have HO2 := Lib.hid (fun w (h : RP w W.heap.size r y) => by have := rof_any w h HY.out.1.n0 ask; rw [← hL] at this; exact this)
      rw [← hL] at HO1
      clear hL
      go_upto_region 12 with (first | (go_at_call 11; refine HO1.out.mono ?_; rintro e w8 ⟨v1, rfl, hN, hb⟩; have HN1 := Lib.hid hN; have HT8 := Lib.hid (HT7.out.next hb); have HO3 := Lib.hid (HO2.out w8 (HT7.out.next hb).hr); clear hN hb HO1 HO2) | (go_at_call 12; refine HO3.out.mono ?_; rintro e w9 ⟨v2, rfl, hN, hb⟩; have HN2 := Lib.hid hN; have HN1' := Lib.hid (HN1.out.next hb); have HT9 := Lib.hid (HT8.out.next hb); clear hN hb HO3))
      obtain ⟨A1, c1, e1⟩ := HN1'.out.shape
      obtain ⟨A2, c2, e2⟩ := HN2.out.shape
      subst e1
      subst e2
      obtain ⟨ln, hln⟩ : ∃ ln, ln = L.length := ⟨_, rfl⟩
      rw [← hln] at HN1' HN2
      (try rw [← hln])
      have HLN := Lib.hid hln
      clear HN1 HT8 HT7 hln
      obtain ⟨st, hst⟩ : ∃ st, st = y.stV ask := ⟨_, rfl⟩
      have HS1 := Lib.hid (state_any w9 HT9.out.hp ask)
      rw [← hst] at HS1
      have HS2 := Lib.hid (fun w (h : RP w W.heap.size r y) => by have := rstate_any w h HY.out.1.n0 ask; rw [← hst] at this; exact this)
      obtain ⟨en, hen⟩ : ∃ en, en = encPS y := ⟨_, rfl⟩
      have H256 := Lib.hid (show ∀ z ∈ en, z < 256 by rw [hen]; exact encPS_256 y)
      have HSV := Lib.hid (fun w (h : PP w W.heap.size p y) => by have := save_any w h HY.out.1; rw [← hen] at this; exact this)
      have HPU := Lib.hid (fun w (h : RP w W.heap.size r y) => by have := rput_any w h HY.out.1; rw [← hen] at this; exact this)
      have HNE := Lib.hid (show ∀ w, (binOp .neq 9 (.string (Byt.bstr en)) (.string (Byt.bstr en))).run Try.prog w = .ok (.bool false) w from fun w => by have := Sx.str_neq w en en H256.out H256.out; rw [decide_eq_true rfl] at this; exact this)
      have hne := HNE.out
      have i5 := bne_self rr
      have i6 := bne_self st
      have i7 := bneN_self ln
      clear hst hen
      go_upto_region 15 with (first | (go_at_call 13; refine HS1.out.mono ?_; rintro e w10 ⟨rfl, hb⟩; have HT10 := Lib.hid (HT9.out.next hb); have HM1 := Lib.hid (HN1'.out.next hb); have HM2 := Lib.hid (HN2.out.next hb); have HS3 := Lib.hid (HS2.out w10 (HT9.out.next hb).hr); clear hb HS1 HS2) | (go_at_call 14; refine HS3.out.mono ?_; rintro e w11 ⟨rfl, rfl⟩; clear HS3; have HSV2 := Lib.hid (HSV.out w10 HT10.out.hp)) | (go_at_call 15; refine HSV2.out.mono ?_; rintro e w12 ⟨rfl, hb⟩; have HT12 := Lib.hid (HT10.out.next hb); have HM3 := Lib.hid (HM1.out.next hb); have HM4 := Lib.hid (HM2.out.next hb); have HPU2 := Lib.hid (HPU.out w12 (HT10.out.next hb).hr); clear hb HSV2 HSV) | (go_at_call 16; refine HPU2.out.mono ?_; rintro e w13 ⟨v3, rfl, hM⟩; have HT13 := Lib.hid (HT12.out.next hM.2); have HM5 := Lib.hid (HM3.out.next hM.2); have HM6 := Lib.hid (HM4.out.next hM.2); have hcv := conv_made hM H256.out w13 (Below.refl _ _); clear hM HPU2 HPU))
      clear i5 i6 i7 hne hcv HM1 HM2 HM3 HM4 HT9 HT10 HT12 HN1' HN2
      obtain ⟨B1, hB1⟩ : ∃ B1, B1 = w7.heap.size := ⟨_, rfl⟩
      obtain ⟨B2, hB2⟩ : ∃ B2, B2 = w8.heap.size := ⟨_, rfl⟩
      rw [← hB1] at HM5
      rw [← hB2] at HM6
      clear hB1 hB2
      go_loopw [15] (fun i wy => ∃ k : Nat, k ≤ ln ∧ i = .int .i64 k ∧ Twin W wy p r nd y ∧ Nd.Nds wy B1 (.slice A1 ln c1) L ∧ Nd.Nds wy B2 (.slice A2 ln c2) L) (fun i _ => ln - (intOf i).toNat)
      case atStart => exact ⟨0, Nat.zero_le _, rfl, HT13.out, HM5.out, HM6.out⟩
      case round =>
        clear HT13 HM5 HM6
        obtain ⟨k, hk, rfl, hT, hN1, hN2⟩ := hrel
        have HT := Lib.hid hT
        have HN1 := Lib.hid hN1
        have HN2 := Lib.hid hN2
        clear hT hN1 hN2
        by_cases hkl : k < ln
        · have i1 : (k : Int) < (ln : Nat) := by omega
          have i3 : ¬ (k : Int) < 0 := by omega
          obtain ⟨m, hm⟩ : ∃ m, L[k]? = some m := ⟨_, List.getElem?_eq_getElem (by rw [← HLN.out]; exact hkl)⟩
          obtain ⟨g1, o1, cc1, ev1, hg1, hc1⟩ := HN1.out.at_ hm
          obtain ⟨g2, o2, cc2, ev2, hg2, hc2⟩ := HN2.out.at_ hm
          simp only [Value.slice.injEq] at ev1 ev2
          obtain ⟨rfl, -, rfl⟩ := ev1
          obtain ⟨rfl, -, rfl⟩ := ev2
          have HKL := Lib.hid (show k < ln ∧ ln ≤ 12 from ⟨hkl, by rw [HLN.out]; exact HLE.out⟩)
          obtain ⟨kk, hkk⟩ : ∃ kk, kk = k + 1 := ⟨_, rfl⟩
          have HWK := Lib.hid (Nd.wrap_n k kk hkk (by have := HKL.out; omega))
          have HKK := Lib.hid hkk
          have i5 := bneN_self m
          have hcc : wr.cell? ⟨g1, o1 + k, none⟩ = some (.int .i64 (m : Nat)) ∧ wr.cell? ⟨g2, o2 + k, none⟩ = some (.int .i64 (m : Nat)) := ⟨hc1, hc2⟩
          clear hk hkl hm hg1 hg2 hc1 hc2 hkk
          go_upto_region 17 with fail
          refine wp_region_tree (S := (fun w' => w'.cell? ⟨g1, o1 + k, none⟩ = some (.int .i64 (m : Nat)) ∧ w'.cell? ⟨g2, o2 + k, none⟩ = some (.int .i64 (m : Nat)))) (.take 0 (.take 1 (.take 2 (.take 3 (.take 4 (.take 5 (.take 6 (.take 7 (.take 8 .nil))))))))) 9999 (by kernel_rfl) (by kernel_rfl) (by kernel_rfl) (by kernel_rfl) (by kernel_rfl) (fun _ _ d _ _ h => by cases d <;> exact h) hcc (fun hHeld => ?_); simp only [Tree.map, List.getElem?_toArray, List.getElem?_cons_zero, List.getElem?_cons_succ]
          (repeat (first | (refine wpTree.take (v := undef) (Or.inr ⟨by rfl, rfl⟩) ?_; simp only [Act.put, List.setIfInBounds_toArray, List.set_cons_zero, List.set_cons_succ]) | (refine wpTree.take (v := ?_) (Or.inl ⟨by rfl, ?_⟩) ?_; rotate_left; (focus (intro _ hS; (try dsimp only at hS); go_split_ands; (try subst hS); go_simp; (try (with_reducible rfl)); done)); simp only [Act.put, List.setIfInBounds_toArray, List.set_cons_zero, List.set_cons_succ])))
          refine wpTree.done ?_
          have HT2 := Lib.hid (HT.out.next (Below.refl wr.heap.size wr).drew)
          have HN3 := Lib.hid (HN1.out.next (Below.refl wr.heap.size wr).drew)
          have HN4 := Lib.hid (HN2.out.next (Below.refl wr.heap.size wr).drew)
          clear hcc HT HN1 HN2
          go_wp2_with fail
          (try rw [HWK.out])
          go_roundw
          case rel => exact ⟨kk, by have := HKL.out; have := HKK.out; omega, rfl, HT2.out, HN3.out, HN4.out⟩
          case measure => have := HKL.out; have := HKK.out; simp [intOf]; omega
        · have i1 : ¬ (k : Int) < (ln : Nat) := by omega
          clear hk hkl
          go_upto_region 9 with fail
          clear i1
          go_wp2_with fail
          (try rw [HW.out])
          go_roundw
          case rel => exact ⟨j + 1, by have := HJL.out; omega, by first | rfl | simp, _, HT.out⟩
          case measure => have := HJL.out; simp [intOf]; omega
    · have hor : ¬ (j : Int) < (n : Nat) ∨ ((j : Int) < (n : Nat) ∧ ¬ (j : Int) < 100) := by omega
      clear hjl hj
      obtain ⟨q, hq⟩ : ∃ q : Nat → Bool, q = fun m => decide (x.stV ((m : Nat) : Int) ≠ 0) := ⟨_, rfl⟩
      have HQ := Lib.hid hq
      clear hq
      rcases hor with i1 | ⟨i1, i2⟩
      all_goals
        go_upto_region 21 with fail
        (try clear i1)
        (try clear i2)
        go_loopw [16, 17] (fun m i wy => ∃ k : Nat, k ≤ 12 ∧ m = .int .i64 ((Nd.thoseN q k).length : Nat) ∧ i = .int .i64 ((k + 1 : Nat) : Int) ∧ Twin W wy p r nd x) (fun _ i _ => 13 - (intOf i).toNat)
        case atStart => exact ⟨0, Nat.zero_le _, rfl, rfl, HT.out⟩
        case round =>
          clear HT
          obtain ⟨k, hk, rfl, rfl, hT⟩ := hrel
          have HT := Lib.hid hT
          clear hT
          obtain ⟨kk, hkk⟩ : ∃ kk, kk = k + 1 := ⟨_, rfl⟩
          rw [← hkk]
          obtain ⟨cn, hcn⟩ : ∃ cn, cn = (Nd.thoseN q k).length := ⟨_, rfl⟩
          have HCN := Lib.hid (show cn = (Nd.thoseN q k).length ∧ cn ≤ 12 from ⟨hcn, by rw [hcn]; exact Nat.le_trans (Nd.those_le _ _) hk⟩)
          rw [← hcn]
          by_cases hkl : k < 12
          · have i1 : ((kk : Nat) : Int) < 13 := by omega
            have HK := Lib.hid (And.intro hkk hkl)
            have HW1 := Lib.hid (Nd.wrap_n kk (kk + 1) rfl (by omega))
            have HW2 := Lib.hid (Nd.wrap_n cn (cn + 1) rfl (by have := HCN.out; omega))
            have HW0 := Lib.hid (show wrap64 ((cn : Nat) : Int) = ((cn : Nat) : Int) by have := HCN.out; unfold wrap64; omega)
            have HSC := Lib.hid (Nd.those_succ q k)
            rw [← hkk] at HSC
            have HS := Lib.hid (rstate_any wr HT.out.hr HT.out.ok.n0 ((kk : Nat) : Int))
            have hs0 : 0 ≤ x.stV ((kk : Nat) : Int) := by rw [stV_q HT.out.ok.n0 (by omega) (by omega)]; exact (HT.out.ok.st (kk - 1) (by omega)).1
            have hqk : q kk = decide (x.stV ((kk : Nat) : Int) ≠ 0) := by rw [HQ.out]
            obtain ⟨st, hst⟩ : ∃ st, st = x.stV ((kk : Nat) : Int) := ⟨_, rfl⟩
            rw [← hst] at HS hs0 hqk
            clear hk hkk hkl hcn hst
            by_cases h0 : st = 0
            · subst h0
              have HQK := Lib.hid (show q kk = false by rw [hqk]; rfl)
              clear hs0 hqk
              go_wp2_with (first | (go_at_call 14; refine HS.out.mono ?_; rintro e w20 ⟨rfl, rfl⟩; clear HS) | (go_at_call 17; refine (num_any _ false).mono ?_; rintro e w21 ⟨rfl, rfl⟩; rw [show numI false = 0 from rfl]))
              (try rw [HW0.out])
              (try rw [HW1.out])
              go_roundw
              case rel => exact ⟨kk, by have := HK.out; omega, by (rw [HSC.out, HQK.out, if_neg (by decide), ← HCN.out.1]; try (first | rfl | (simp; exact HW0.out) | simp)), rfl, HT.out⟩
              case measure => have := HK.out; simp [intOf]; omega
            · have HQK := Lib.hid (show q kk = true by rw [hqk]; exact decide_eq_true h0)
              have i5 : 0 < st := by omega
              clear hs0 hqk h0
              go_wp2_with (first | (go_at_call 14; refine HS.out.mono ?_; rintro e w20 ⟨rfl, rfl⟩; clear HS) | (go_at_call 17; refine (num_any _ true).mono ?_; rintro e w21 ⟨rfl, rfl⟩; rw [show numI true = 1 from rfl]))
              (try rw [HW1.out])
              (try rw [HW2.out])
              go_roundw
              case rel => exact ⟨kk, by have := HK.out; omega, by (rw [HSC.out, HQK.out, if_pos rfl, List.length_append, ← HCN.out.1]; first | rfl | simp), rfl, HT.out⟩
              case measure => have := HK.out; simp [intOf]; omega
          · have i1 : ¬ ((kk : Nat) : Int) < 13 := by omega
            have hk12 : k = 12 := by omega
            subst hk12
            have HSL := Lib.hid (show x.sellersL.length = cn by rw [hcn, HQ.out]; rfl)
            clear hk hkl hkk hcn
            go_upto_region 26 with fail
            clear i1
            rw [zc157]
            have b3 := (Below.refl wr.heap.size wr).alloc (Nat.le_refl _) (.cells (PS.new 0).cells.toArray 50)
            have HT3 := Lib.hid (HT.out.next b3)
            have hz3 : PP (wr.alloc (.cells (PS.new 0).cells.toArray 50)) W.heap.size wr.heap.size (PS.new 0) := ⟨Blk.new _ _ _, HT.out.b.size⟩
            obtain ⟨w3, hw3⟩ : ∃ w3, w3 = wr.alloc (.cells (PS.new 0).cells.toArray 50) := ⟨_, rfl⟩
            obtain ⟨z, hz⟩ : ∃ z, z = wr.heap.size := ⟨_, rfl⟩
            rw [← hw3] at HT3 hz3
            rw [← hz] at hz3
            rw [← hw3, ← hz]
            have HZ3 := Lib.hid hz3
            clear b3 hz3 hw3 hz HT
            go_upto_region 27 with (go_at_call 18; refine (leave_nil w3 1).mono ?_; rintro e w4 ⟨rfl, hb⟩; have HT4 := Lib.hid (HT3.out.next hb); have HZ4 := Lib.hid (HZ3.out.next hb); clear hb)
            clear HT3 HZ3
            have HND := Lib.hid HT4.out.n
            go_wp2_with fail
            refine (alive_any w4).mono ?_
            rintro e w5 ⟨rfl, hb⟩; have HT5 := Lib.hid (HT4.out.next hb); have HZ5 := Lib.hid (HZ4.out.next hb); clear hb HT4 HZ4
            go_wp2_with fail
            refine (sellers_any w5 HT5.out.hp).mono ?_
            rintro e w6 ⟨v6, rfl, hN, hb⟩; have HT6 := Lib.hid (HT5.out.next hb); have HZ6 := Lib.hid (HZ5.out.next hb); obtain ⟨A6, c6, rfl⟩ := hN.shape; rw [HSL.out]; have HNO := Lib.hid (node_any w6 (HT5.out.next hb).hp); rw [HND.out] at HNO; clear hN hb HT5 HZ5
            go_wp2_with fail
            refine HNO.out.mono ?_
            rintro e w7 ⟨rfl, rfl⟩; clear HNO
            go_wp2_with fail
            refine (found_zero w6 HZ6.out rfl 1).mono ?_
            rintro e w8 ⟨rfl, rfl⟩
            go_wp2_with fail
            refine (join_nil _ 1 2).mono ?_
            rintro e w9 ⟨rfl, rfl⟩
            go_wp2_with fail
            refine (joined_zero w6 HZ6.out rfl 1 2).mono ?_
            rintro e w10 ⟨rfl, rfl⟩
            go_wp2_with fail
            refine (left_nil _ 1 2).mono ?_
            rintro e w11 ⟨rfl, rfl⟩
            go_wp2_with fail
            refine (asked_nil w6 1 2).mono ?_
            rintro e w12 ⟨rfl, hb⟩; have HT12 := Lib.hid (HT6.out.next hb); have HZ12 := Lib.hid (HZ6.out.next hb); clear hb HT6 HZ6
            go_wp2_with fail
            refine (leaving_zero w12 HZ12.out rfl 1 2).mono ?_
            rintro e w13 ⟨rfl, hb⟩; have HT13 := Lib.hid (HT12.out.next hb); have HZ13 := Lib.hid (HZ12.out.next hb); clear hb HT12 HZ12
            go_wp2_with fail
            refine (node_nil _).mono ?_
            rintro e w13 ⟨rfl, rfl⟩
            go_wp2_with fail
            refine (state_nil w13 1).mono ?_
            rintro e w14 ⟨rfl, hb⟩; have HT14 := Lib.hid (HT13.out.next hb); have HZ14 := Lib.hid (HZ13.out.next hb); have HOZ := Lib.hid (of_any w14 (HZ13.out.next hb) 1); rw [ofL0] at HOZ; clear hb HT13 HZ13
            go_wp2_with fail
            refine HOZ.out.mono ?_
            rintro e w15 ⟨v15, rfl, hN, hb⟩; have HT15 := Lib.hid (HT14.out.next hb); have HZ15 := Lib.hid (HZ14.out.next hb); obtain ⟨A15, c15, rfl⟩ := hN.shape; rw [show ([] : List Nat).length = 0 from rfl]; clear hN hb HT14 HZ14 HOZ
            go_wp2_with fail
            refine (sellers_nil w15).mono ?_
            rintro e w16 ⟨rfl, hb⟩; have HT16 := Lib.hid (HT15.out.next hb); have HZ16 := Lib.hid (HZ15.out.next hb); clear hb HT15 HZ15
            go_wp2_with fail
            refine (save_nil w16).mono ?_
            rintro e w17 ⟨rfl, hb⟩; have HT17 := Lib.hid (HT16.out.next hb); have HZ17 := Lib.hid (HZ16.out.next hb); clear hb HT16 HZ16
            go_wp2_with fail
            refine (save_zero w17 HZ17.out rfl).mono ?_
            rintro e w18 ⟨rfl, hb⟩; have HB18 := Lib.hid (HT17.out.b.trans (hb.mono HT17.out.b.size)); clear hb HT17 HZ17
            go_wp2_with fail
            go_ret
            exact ⟨rfl, HB18.out⟩
theorem live_walk (W : World) (nd : Int) (A : Option Addr) (n c : Nat) (l : List Op4) (ask : Int) (hl : l.length = n) (hr : RowsOf Op4.cells 4 W A l) :
    Calls Try.prog 3 #[.int .i64 nd, .slice A n c, .int .i64 ask] W fun e W' => e = .returned (.bool true) ∧ Below W.heap.size W W' := by
  cases hn : numB nd with
  | false => exact live_no W nd hn _ ask
  | true => exact live_yes W nd hn A n c l ask hl hr
end Pe
end Go.Proofs.Ytlceljcplmcjgaa

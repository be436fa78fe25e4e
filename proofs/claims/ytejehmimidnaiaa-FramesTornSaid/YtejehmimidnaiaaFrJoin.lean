/-
FramesJoin holds: for all records and all bytes behind their frames, just the frames' records, and then those of the bytes, are read. No condition.
-/
import Derived.Test.YtejehmimidnaiaaFrJ
namespace Go.Proofs.Ytejehmimidnaiaa
open Go.RowKit Go.ChangeShapes Go.WideShapes Go.ChangeAt Go.WideElems
open Byt
set_option linter.unusedSimpArgs false
set_option linter.unusedVariables false

/-- The frames of the records that may be, behind k of them. -/
def JInv (W : World) (v : Value) (m : List (Nat × List Nat)) (k : Nat) (w : World) : Prop :=
  w.ownsRow W.heap.size 5 1 v (Fr.frames m).length (u8s (Fr.frames m)) ∧ (∀ y ∈ m, Fr.Fine y) ∧ m.length ≤ k ∧ (Fr.frames m).length ≤ 600 * k ∧ Below W.heap.size W w
theorem frames_snoc (m : List (Nat × List Nat)) (k : Nat) (d : List Nat) : Fr.frames (m ++ [(k, d)]) = Fr.frames m ++ Fr.frame k d := by simp [Fr.frames]
theorem right_fine {x : Rc} (h : Fr.rightB x.k x.bs.length = true) (h256 : ∀ y ∈ x.bs, y < 256) : ∃ k : Nat, x.k = (k : Nat) ∧ Fr.Fine (k, x.bs) := by
  unfold Fr.rightB at h
  simp only [Bool.and_eq_true, decide_eq_true_eq] at h
  exact ⟨x.k.toNat, by omega, by show 1 ≤ x.k.toNat; omega, by show x.k.toNat < 256; omega, h.2.2, h256⟩
theorem JInv.next {W w w' : World} {v : Value} {m : List (Nat × List Nat)} {k : Nat} (h : JInv W v m k w) (hb : Below w.heap.size w w') : JInv W v m k w' :=
  ⟨ownG_next h.1 hb, h.2.1, h.2.2.1, h.2.2.2.1, h.2.2.2.2.trans (hb.mono h.2.2.2.2.size)⟩
theorem JInv.more {W w : World} {v : Value} {m : List (Nat × List Nat)} {k k' : Nat} (h : JInv W v m k w) (hk : k ≤ k') : JInv W v m k' w := ⟨h.1, h.2.1, by have := h.2.2.1; omega, by have := h.2.2.2.1; omega, h.2.2.2.2⟩
theorem rc_at {W : World} {b o : Nat} {x : Rc} (hr : W.rangeAt b o x.cells) : W.cell? ⟨b, o, none⟩ = some (.int .i64 x.k) ∧ W.cell? ⟨b, o + 1, none⟩ = some (.slice x.A x.bs.length x.c) := ⟨hr 0 _ rfl, hr 1 _ rfl⟩
set_option maxHeartbeats 8000000 in
set_option maxRecDepth 20000 in
theorem join_walk (W : World) (A B : Option Addr) (n c m c2 : Nat) (l : List Rc) (bs : List Nat) (hn : l.length = n) (hm : bs.length = m) (hc2 : m ≤ c2) (hr : RowsOf Rc.cells 2 W A l) (hok : ∀ x ∈ l, x.Ok W) (hb : ByR W B bs) (hB : B = none → bs = []) (h256 : ∀ x ∈ bs, x < 256) :
    Calls Try.prog 5 #[.slice A n c, .slice B m c2] W fun e W' => e = .returned (.bool true) ∧ Below W.heap.size W W' := by
  have HN := Lib.hid hn
  have HM := Lib.hid hm
  have HC := Lib.hid hc2
  have HR := Lib.hid hr
  have HOK := Lib.hid hok
  have HBS := Lib.hid (And.intro hb (And.intro hB h256))
  clear hn hm hc2 hr hok hb hB h256
  by_cases p1 : (2000 : Int) < (m : Nat)
  · go_enter Try.func5, Try.ntmps5
    go_wp2_with (go_at_call 6; refine (alive_any _).mono ?_; rintro e w3 ⟨rfl, hb⟩; have HB3 := Lib.hid hb; clear hb)
    go_ret
    exact ⟨rfl, HB3.out⟩
  have HMS := Lib.hid (show m ≤ 2000 by omega)
  go_enter Try.func5, Try.ntmps5
  go_upto_region 6 with fail
  go_loopw [5, 6, 7] (fun av nv iv wr => ∃ k : Nat, ∃ q v, k ≤ 12 ∧ k ≤ n ∧ iv = .int .i64 k ∧ nv = .int .i64 (q.length : Nat) ∧ av = v ∧ JInv W v q k wr) (fun _ _ i _ => 12 - (intOf i).toNat)
  case atStart => exact ⟨0, [], _, by omega, by omega, rfl, rfl, rfl, World.ownsRow_nil _ _ _ _, (fun y hy => by cases hy), Nat.le_refl _, Nat.le_refl _, Below.refl _ _⟩
  case round =>
    obtain ⟨k, q, v5, hk12, hkn, rfl, rfl, rfl, hJ⟩ := hrel
    have HJ := Lib.hid hJ
    clear hJ
    by_cases hlt : k < n
    · by_cases h12 : (k : Int) < 12
      · have hkl : k < l.length := by rw [HN.out]; exact hlt
        obtain ⟨b, o, hA, hbk, hrr⟩ := (HR.out.next HJ.out.2.2.2.2).resolve_left (by intro e; rw [e] at hkl; simp at hkl)
        subst hA
        have hr := hrr k hkl
        obtain ⟨x, hx⟩ : ∃ x, x = l[k] := ⟨_, rfl⟩
        have HX := Lib.hid (show x.Ok wr from hx ▸ (HOK.out _ (List.getElem_mem hkl)).next HJ.out.2.2.2.2)
        rw [← hx] at hr
        obtain ⟨r0, r1⟩ := rc_at hr
        clear hrr hx hkl
        by_cases p5 : (500 : Int) < (x.bs.length : Nat)
        · clear hr
          go_wp2_with (go_at_call 6; refine (alive_any _).mono ?_; rintro e w3 ⟨rfl, hb⟩; have HB3 := Lib.hid (HJ.out.2.2.2.2.trans (hb.mono HJ.out.2.2.2.2.size)); clear hb)
          go_ret
          exact ⟨rfl, HB3.out⟩
        have HL5 := Lib.hid (show x.bs.length ≤ 500 by omega)
        obtain ⟨y, hy⟩ : ∃ y, y = x.bs.length := ⟨_, rfl⟩
        obtain ⟨rb, hrb⟩ : ∃ rb, rb = Fr.rightB x.k y := ⟨_, rfl⟩
        have HRB := Lib.hid hrb
        have HY := Lib.hid hy
        rw [← hy] at p5 r1
        have HRA := Lib.hid hr
        cases rb with
        | false =>
          have HW := Lib.hid (write_no wr x.k x.A y x.c HRB.out.symm)
          clear hrb hy hr
          have hr : wr.rangeAt b (o + k * 2) (Rc.cells x) := HRA.out
          go_wp2_with (first | (refine wpList_load_mid rfl 24 _ rfl _ _ rfl (Rc.cells x) _ hr Try.underlying24 rfl (rcinfo x) ?_; rw [rc_arr, ← HY.out]) | (go_at_call 8; refine HW.out.mono ?_; rintro e w3 ⟨rfl, hb⟩; have HJ3 := Lib.hid (HJ.out.next hb); clear hb HW))
          go_roundw
          case rel => exact ⟨k + 1, q, u5, by omega, by omega, by go_num, rfl, rfl, HJ3.out.more (by omega)⟩
          case measure => simp [intOf]; omega
        | true =>
          obtain ⟨z, hz, hF⟩ := right_fine (x := x) (by rw [← HY.out]; exact HRB.out.symm) HX.out.h256
          have HF := Lib.hid hF
          have hw := write_yes wr z hF.1 hF.2.1 x.A y x.c x.bs HY.out.symm (by have := HL5.out; have := HY.out; omega) HX.out.rd HX.out.hA HX.out.h256
          have HW := Lib.hid hw
          have HZ := Lib.hid hz
          have e1 : wrap64 ((q.length : Int) + 1) = ((q.length + 1 : Nat) : Int) := by have := HJ.out.2.2.1; unfold wrap64; omega
          have HE1 := Lib.hid e1
          clear hrb hy hr hz hF hw e1
          have hr : wr.rangeAt b (o + k * 2) (Rc.cells x) := HRA.out
          go_upto_region 12 with (first | (refine wpList_load_mid rfl 24 _ rfl _ _ rfl (Rc.cells x) _ hr Try.underlying24 rfl (rcinfo x) ?_; rw [rc_arr, ← HY.out, HZ.out]) | (go_at_call 8; refine HW.out.mono ?_; rintro e w3 ⟨v3, rfl, hown, hb⟩; have HJ3 := Lib.hid (HJ.out.next hb); have HO3 := Lib.hid hown; clear hb hown HW))
          obtain ⟨A3, c3, rfl, hc3, hs3, -⟩ := ownG_slice HO3.out
          have HS3 := Lib.hid hs3
          have HT3 := Lib.hid (HJ3.out.2.2.2.2.size)
          have HYL := Lib.hid (show (Fr.frame z x.bs).length = 9 + y by rw [Fr.frame_len, HY.out])
          clear hs3 hc3 hr r0 r1 HO3
          obtain ⟨N, hNl⟩ : ∃ N, N = (Fr.frames q).length := ⟨_, rfl⟩
          have HNl := Lib.hid hNl
          have HOq := Lib.hid (show w3.ownsRow W.heap.size 5 1 u5 N (u8s (Fr.frames q)) from hNl ▸ HJ3.out.1)
          clear hNl
          have ev := HE1.out
          go_wp2_with (at_builtin; refine wpList_append_u8 _ rfl _ _ rfl W.heap.size _ N (u8s (Fr.frames q)) rfl HOq.out A3 (9 + y) c3 (u8s (Fr.frame z x.bs)) rfl (by rw [u8s_len]; exact HYL.out) HS3.out (u8s_one _) (by have h1 := HJ3.out.2.2.2.1; have h2 := HL5.out; have h3 := HY.out; have h4 := HNl.out; clear HE1 ev; omega) HT3.out ?_; intro v4 w4 hown hgrow hloc; have HB4 := Lib.hid (ownG_below hgrow HOq.out (Nat.le_refl _) HT3.out HJ3.out.2.2.2.2); have HO4 := Lib.hid hown; clear hown hgrow hloc)
          go_roundw
          case rel =>
            refine ⟨k + 1, q ++ [(z, x.bs)], _, by omega, by omega, by go_num, ?_, rfl, ?_, ?_, ?_, ?_, HB4.out⟩
            · rw [List.length_append]; first | rfl | (rw [HE1.out]; rfl)
            · have := HO4.out
              rw [frames_snoc, u8s_app, List.length_append, HYL.out, ← HNl.out]
              exact this
            · intro y' hy'
              rcases List.mem_append.1 hy' with h | h
              · exact HJ3.out.2.1 y' h
              · simp only [List.mem_singleton] at h
                subst h
                exact HF.out
            · rw [List.length_append]; have := HJ3.out.2.2.1; simp; omega
            · rw [frames_snoc, List.length_append, HYL.out]; have h1 := HJ3.out.2.2.2.1; have h2 := HL5.out; have h3 := HY.out; clear HE1 ev; omega
          case measure => simp [intOf]; omega
      · have q12 : ¬ (k : Int) < 12 := h12
        obtain ⟨fs, hfs⟩ : ∃ fs, fs = Fr.frames q := ⟨_, rfl⟩
        obtain ⟨N, hN⟩ : ∃ N, N = fs.length := ⟨_, rfl⟩
        have hrow := HJ.out.1
        have hread := Fr.readB_frames (eF := 3) (eS := 9) q bs HJ.out.2.1
        rw [← hfs, ← hN] at hrow hread
        have HNf := Lib.hid hN
        have HF256 := Lib.hid (show ∀ x ∈ fs, x < 256 from hfs ▸ frames_256 q HJ.out.2.1)
        have HNN := Lib.hid (show N ≤ 7200 by have := HJ.out.2.2.2.1; rw [← hfs, ← hN] at this; omega)
        obtain ⟨rb, hrb⟩ : ∃ rb, rb = Fr.readB 3 9 bs := ⟨_, rfl⟩
        rw [← hrb] at hread
        obtain ⟨rl, rt, re⟩ := rb
        obtain ⟨T1, hT1⟩ : ∃ T1, T1 = N + rt := ⟨_, rfl⟩
        obtain ⟨P, hP⟩ : ∃ P, P = q.length := ⟨_, rfl⟩
        have HRD := Lib.hid (show Fr.readB 3 9 (fs ++ bs) = (q ++ rl, T1, re) by rw [hread, hT1])
        have HRB := Lib.hid hrb
        have HT1 := Lib.hid hT1
        have HP := Lib.hid hP
        have HBW := Lib.hid HJ.out.2.2.2.2
        have HP12 := Lib.hid (show P ≤ 12 by have := HJ.out.2.2.1; omega)
        rw [← hP]
        obtain ⟨A5, c5, rfl, -, hs5, -⟩ := ownG_slice hrow
        have hlit : (wr.alloc (.cells #[] 5)).ownsRow wr.heap.size 5 1 (.slice (some ⟨wr.heap.size, 0, none⟩) 0 0) 0 (u8s []) := World.ownsRow_lit (base := wr.heap.size) (size := 1) (e := 5) wr #[] 0 (Nat.le_refl _) (by unfold maxLen; omega) rfl
        have hl1 := (Below.refl wr.heap.size wr).alloc (Nat.le_refl _) (.cells #[] 5)
        have HL := Lib.hid (And.intro hlit hl1)
        obtain ⟨NB, hNB⟩ : ∃ NB, (fs ++ bs).length = NB := ⟨_, rfl⟩
        have HNB := Lib.hid hNB
        clear hNB
        have HS5 := Lib.hid (hs5.below hl1)
        clear hfs hN hrow hread hrb hT1 hP hs5 hlit hl1 HJ
        go_upto_region 15 with (first
          | (at_builtin; refine wpList_append_u8 _ rfl _ _ rfl wr.heap.size _ 0 (u8s []) rfl HL.out.1 A5 N c5 (u8s fs) rfl (by rw [u8s_len]; exact HNf.out.symm) HS5.out (u8s_one _) (by have := HNN.out; omega) (by simp) ?_; intro v6 w6 hown hgrow hloc; have HB6 := Lib.hid (ownG_below hgrow HL.out.1 (Nat.le_refl _) (by simp) HL.out.2); rw [Nat.zero_add] at hown; have HO6 := Lib.hid (show w6.ownsRow wr.heap.size 5 1 v6 N (u8s fs) from hown); have HS6 := Lib.hid (show Src w6 B m (u8s bs) from HM.out ▸ (HBS.out.1.next (HBW.out.trans (HB6.out.mono HBW.out.size))).src HBS.out.2.1); clear hown hgrow hloc HL HS5)
          | (at_builtin; refine wpList_append_u8 _ rfl _ _ rfl wr.heap.size _ N (u8s fs) rfl HO6.out B m c2 (u8s bs) rfl (by rw [u8s_len]; exact HM.out) HS6.out (u8s_one _) (by have := HNN.out; have := HMS.out; omega) HB6.out.size ?_; intro v7 w7 hown hgrow hloc; have HB7 := Lib.hid (ownG_below hgrow HO6.out (Nat.le_refl _) HB6.out.size HB6.out); have hown : w7.ownsRow wr.heap.size 5 1 v7 (fs ++ bs).length (u8s (fs ++ bs)) := (by rw [u8s_app, List.length_append, ← HNf.out, HM.out]; exact hown); obtain ⟨A7, c7, rfl, hc7, hr7, -⟩ := own_byr hown; rw [HNB.out] at hc7 ⊢; have hR := read_any w7 A7 NB c7 (fs ++ bs) HNB.out (by rw [← HNB.out, List.length_append, ← HNf.out, HM.out]; have := HNN.out; have := HMS.out; omega) hc7 hr7 (fun x hx => (List.mem_append.1 hx).elim (HF256.out x) (HBS.out.2.2 x)); rw [HRD.out] at hR; have HRR := Lib.hid hR; clear hown hgrow hloc HO6 HS6 HB6 hc7 hr7 hR)
          | (go_at_call 9; refine HRR.out.mono ?_; rintro e w8 ⟨v8, l1, rfl, hown, hrec, hb⟩; have HO8 := Lib.hid hown; have HL8 := Lib.hid hrec; have HB8 := Lib.hid ((HBW.out.trans (HB7.out.mono HBW.out.size)).trans (hb.mono (Nat.le_trans HBW.out.size HB7.out.size))); clear hown hrec hb HRR HB7))
        have hR := read_any w8 B m c2 bs HM.out (by have := HMS.out; omega) HC.out (HBS.out.1.next HB8.out) HBS.out.2.2
        rw [← HRB.out] at hR
        have HRR := Lib.hid hR
        obtain ⟨A8, c8, rfl, -⟩ := ownG_slice HO8.out
        clear hR
        go_upto_region 16 with (go_at_call 9; refine HRR.out.mono ?_; rintro e w9 ⟨v9, l2, rfl, hown, hrec, hb⟩; have HO9 := Lib.hid hown; have HL9 := Lib.hid hrec; have HO89 := Lib.hid (ownG_next HO8.out hb); have HL89 := Lib.hid (HL8.out.next hb); have HB9 := Lib.hid (HB8.out.trans (hb.mono HB8.out.size)); clear hown hrec hb HRR HB8 HO8 HL8)
        obtain ⟨A9, c9, rfl, -⟩ := ownG_slice HO9.out
        obtain ⟨L1, hL1⟩ : ∃ L, L = l1.length := ⟨_, rfl⟩
        obtain ⟨L2, hL2⟩ : ∃ L, L = l2.length := ⟨_, rfl⟩
        have hlen := recs_len HL89.out HL9.out
        rw [← hL1, ← hL2, ← HP.out] at hlen
        have HL1 := Lib.hid hL1
        have HL2 := Lib.hid hL2
        have HLN := Lib.hid hlen
        have HT1' := Lib.hid HT1.out
        have HRT := Lib.hid (show rt ≤ 2000 by have := Fr.readB_le 3 9 bs; rw [← HRB.out] at this; have h2 := HMS.out; rw [HM.out] at this; exact Nat.le_trans this h2)
        have HRL := Lib.hid (show L2 ≤ 2000 by have := Fr.readB_many 3 9 bs; rw [← HRB.out] at this; have h2 := HMS.out; rw [HM.out] at this; have h3 := recs_len1 HL9.out; rw [← hL2] at h3; simp only at this; omega)
        rw [← hL1, ← hL2]
        clear hL1 hL2 hlen
        have w1 : wrap64 ((P : Int) + (L2 : Int)) = (L1 : Nat) := w_add P L2 L1 HLN.out (by have := HP12.out; have := HRL.out; omega)
        have w2 : wrap64 ((N : Int) + (rt : Int)) = (T1 : Nat) := w_add N rt T1 HT1.out (by have := HNN.out; have := HRT.out; omega)
        go_upto_region 18 with fail
        clear w1 w2
        go_upto_region 19 with fail
        go_loopw [16] (fun jv w10 => ∃ j : Nat, j ≤ L2 ∧ jv = .int .i64 j ∧ Below w9.heap.size w9 w10) (fun j _ => 3000 - (intOf j).toNat)
        case atStart => exact ⟨0, Nat.zero_le _, rfl, Below.refl _ _⟩
        case round =>
          obtain ⟨j, hj, rfl, hb⟩ := hrel
          have HB10 := Lib.hid hb
          clear hb
          by_cases hjl : j < L2
          · obtain ⟨x1, x2, hx1, hx2, hxk, hxb⟩ := recs_same HL89.out HL9.out (j := j) (by rw [← HL2.out]; exact hjl)
            rw [← HP.out] at hx1
            obtain ⟨J1, hJ1⟩ : ∃ J, J = P + j := ⟨_, rfl⟩
            rw [← hJ1] at hx1
            obtain ⟨g1, rfl, hr1⟩ := rec_src (ownG_next HO89.out HB10.out) hx1
            obtain ⟨g2, rfl, hr2⟩ := rec_src (ownG_next HO9.out HB10.out) hx2
            obtain ⟨r1a, r1b⟩ := recs_mem (HL89.out.next HB10.out) hx1
            obtain ⟨r2a, r2b⟩ := recs_mem (HL9.out.next HB10.out) hx2
            have HX1 := Lib.hid (And.intro r1a r1b)
            have HX2 := Lib.hid (And.intro r2a r2b)
            have HXK := Lib.hid hxk
            have HXB := Lib.hid hxb
            have H256 := Lib.hid (show ∀ y ∈ x1.bs, y < 256 from recs_256 (HL9.out) hx2 hxb (by have := Fr.readB_256 3 9 bs HBS.out.2.2; rw [← HRB.out] at this; exact this))
            have w1 : wrap64 ((P : Int) + (j : Int)) = (J1 : Nat) := w_add P j J1 hJ1 (by have := HP12.out; have := HRL.out; omega)
            have w1' : IntKind.i64.wrap ((P : Int) + (j : Int)) = (J1 : Nat) := w_addi P j J1 hJ1 (by have := HP12.out; have := HRL.out; omega)
            have i1 : J1 < L1 := by rw [hJ1, HLN.out]; omega
            have i2 : (J1 : Int) < (L1 : Nat) := by omega
            have i3 : (j : Int) < (L2 : Nat) := by omega
            clear hx1 hx2 r1a r1b r2a r2b hxk hxb hJ1
            go_upto_region 21 with fail
            refine wp_region_tree (S := (fun w' => w'.rangeAt g1 (J1 * 2) x1.cells ∧ w'.rangeAt g2 (j * 2) x2.cells)) (.take 0 (.take 1 (.take 2 (.take 3 (.take 4 (.take 5 (.take 7 (.take 8 (.take 9 (.take 10 (.one 6 (.one 11 (.take 12 .nil))))))))))))) 9999 (by kernel_rfl) (by kernel_rfl) (by kernel_rfl) (by kernel_rfl) (by kernel_rfl) (fun _ _ d _ _ h => by cases d <;> exact h) ⟨hr1, hr2⟩ (fun hHeld => ?_); simp only [Tree.map, List.getElem?_toArray, List.getElem?_cons_zero, List.getElem?_cons_succ]
            (repeat (first | (refine wpTree.take (v := undef) (Or.inr ⟨by rfl, rfl⟩) ?_; simp only [Act.put, List.setIfInBounds_toArray, List.set_cons_zero, List.set_cons_succ]) | (refine wpTree.take (v := .agg (Rc.cells ?_).toArray) (yieldsIf_load_mid rfl 24 _ rfl _ _ rfl (Rc.cells _) _ ?_ Try.underlying24 rfl (rcinfo _)) ?_; rotate_left; (focus (intro _ hS; (try dsimp only at hS); go_split_ands; assumption)); simp only [Act.put, List.setIfInBounds_toArray, List.set_cons_zero, List.set_cons_succ]) | (refine wpTree.take (v := ?_) (Or.inl ⟨by rfl, ?_⟩) ?_; rotate_left; (focus (intro _ hS; (try dsimp only at hS); go_split_ands; (try subst hS); go_simp; (try (with_reducible rfl)); done)); simp only [Act.put, List.setIfInBounds_toArray, List.set_cons_zero, List.set_cons_succ])))
            refine wpTree.one (fun K hK => ?_)
            go_simp
            go_at_call 7
            refine (as_any _ x1.k x1.A x1.bs.length x1.c x1.bs rfl ((HX1.out.1.next (Below.refl _ _).drew).byr.src HX1.out.2) (HXB.out ▸ H256.out)).mono ?_
            rintro e w11 ⟨rfl, hb⟩
            have hb' : Below wr.heap.size wr w11 := ⟨hb.os, hb.tape, hb.output, hb.size, hb.block⟩
            refine hK.out _ _ ⟨rng_next hr1 hb', rng_next hr2 hb'⟩ (fun _ => ?_)
            clear hK K hb
            (try simp only [Act.put, List.setIfInBounds_toArray, List.set_cons_zero, List.set_cons_succ])
            refine wpTree.one (fun K hK => ?_)
            go_simp
            go_at_call 7
            refine (as_any _ x2.k x2.A x2.bs.length x2.c x2.bs rfl ((HX2.out.1.next hb').byr.src HX2.out.2) (HXB.out ▸ H256.out)).mono ?_
            rintro e w12 ⟨rfl, hb2⟩
            have hb3 := hb'.trans (hb2.mono hb'.size)
            refine hK.out _ _ ⟨rng_next hr1 hb3, rng_next hr2 hb3⟩ (fun _ => ?_)
            clear hK K hb2
            have HB12 := Lib.hid (HB10.out.trans (hb3.mono HB10.out.size))
            clear hb3 hb' hr1 hr2
            rw [HXK.out, HXB.out]
            have hneq := fun w => neq_same w x2.k (bstr x2.bs)
            (try simp only [Act.put, List.setIfInBounds_toArray, List.set_cons_zero, List.set_cons_succ])
            (repeat (first | (refine wpTree.take (v := undef) (Or.inr ⟨by rfl, rfl⟩) ?_; simp only [Act.put, List.setIfInBounds_toArray, List.set_cons_zero, List.set_cons_succ]) | (refine wpTree.take (v := ?_) (Or.inl ⟨by rfl, ?_⟩) ?_; rotate_left; (focus (intro _ hS; (try dsimp only at hS); go_split_ands; (try subst hS); go_simp; (try (with_reducible rfl)); done)); simp only [Act.put, List.setIfInBounds_toArray, List.set_cons_zero, List.set_cons_succ])))
            refine wpTree.done ?_
            clear w1 w1' i1 i2 i3
            obtain ⟨j1, hj1⟩ : ∃ j1, j1 = j + 1 := ⟨_, rfl⟩
            have HEV := Lib.hid (w_one j j1 hj1 (by have := HRL.out; omega))
            have HJ1 := Lib.hid hj1
            have HJL := Lib.hid hjl
            clear hj1 hjl hj
            go_wp2_with fail
            go_roundw
            case rel => exact ⟨j1, by rw [HJ1.out]; exact HJL.out, by rw [HEV.out], HB12.out⟩
            case measure => exact down_one 3000 j j1 _ HEV.out HJ1.out (by have h1 := HRL.out; have h3 := HJL.out; omega)
          · have i3 : ¬ (j : Int) < (L2 : Nat) := by omega
            go_wp2_with (go_at_call 6; refine (alive_any _).mono ?_; rintro e w13 ⟨rfl, hb⟩; have HB13 := Lib.hid ((HB9.out.trans (HB10.out.mono HB9.out.size)).trans (hb.mono (Nat.le_trans HB9.out.size HB10.out.size))); clear hb)
            go_ret
            exact ⟨rfl, HB13.out⟩
    · have qn : ¬ (k : Int) < (n : Nat) := by omega
      obtain ⟨fs, hfs⟩ : ∃ fs, fs = Fr.frames q := ⟨_, rfl⟩
      obtain ⟨N, hN⟩ : ∃ N, N = fs.length := ⟨_, rfl⟩
      have hrow := HJ.out.1
      have hread := Fr.readB_frames (eF := 3) (eS := 9) q bs HJ.out.2.1
      rw [← hfs, ← hN] at hrow hread
      have HNf := Lib.hid hN
      have HF256 := Lib.hid (show ∀ x ∈ fs, x < 256 from hfs ▸ frames_256 q HJ.out.2.1)
      have HNN := Lib.hid (show N ≤ 7200 by have := HJ.out.2.2.2.1; rw [← hfs, ← hN] at this; omega)
      obtain ⟨rb, hrb⟩ : ∃ rb, rb = Fr.readB 3 9 bs := ⟨_, rfl⟩
      rw [← hrb] at hread
      obtain ⟨rl, rt, re⟩ := rb
      obtain ⟨T1, hT1⟩ : ∃ T1, T1 = N + rt := ⟨_, rfl⟩
      obtain ⟨P, hP⟩ : ∃ P, P = q.length := ⟨_, rfl⟩
      have HRD := Lib.hid (show Fr.readB 3 9 (fs ++ bs) = (q ++ rl, T1, re) by rw [hread, hT1])
      have HRB := Lib.hid hrb
      have HT1 := Lib.hid hT1
      have HP := Lib.hid hP
      have HBW := Lib.hid HJ.out.2.2.2.2
      have HP12 := Lib.hid (show P ≤ 12 by have := HJ.out.2.2.1; omega)
      rw [← hP]
      obtain ⟨A5, c5, rfl, -, hs5, -⟩ := ownG_slice hrow
      have hlit : (wr.alloc (.cells #[] 5)).ownsRow wr.heap.size 5 1 (.slice (some ⟨wr.heap.size, 0, none⟩) 0 0) 0 (u8s []) := World.ownsRow_lit (base := wr.heap.size) (size := 1) (e := 5) wr #[] 0 (Nat.le_refl _) (by unfold maxLen; omega) rfl
      have hl1 := (Below.refl wr.heap.size wr).alloc (Nat.le_refl _) (.cells #[] 5)
      have HL := Lib.hid (And.intro hlit hl1)
      obtain ⟨NB, hNB⟩ : ∃ NB, (fs ++ bs).length = NB := ⟨_, rfl⟩
      have HNB := Lib.hid hNB
      clear hNB
      have HS5 := Lib.hid (hs5.below hl1)
      clear hfs hN hrow hread hrb hT1 hP hs5 hlit hl1 HJ
      go_upto_region 15 with (first
        | (at_builtin; refine wpList_append_u8 _ rfl _ _ rfl wr.heap.size _ 0 (u8s []) rfl HL.out.1 A5 N c5 (u8s fs) rfl (by rw [u8s_len]; exact HNf.out.symm) HS5.out (u8s_one _) (by have := HNN.out; omega) (by simp) ?_; intro v6 w6 hown hgrow hloc; have HB6 := Lib.hid (ownG_below hgrow HL.out.1 (Nat.le_refl _) (by simp) HL.out.2); rw [Nat.zero_add] at hown; have HO6 := Lib.hid (show w6.ownsRow wr.heap.size 5 1 v6 N (u8s fs) from hown); have HS6 := Lib.hid (show Src w6 B m (u8s bs) from HM.out ▸ (HBS.out.1.next (HBW.out.trans (HB6.out.mono HBW.out.size))).src HBS.out.2.1); clear hown hgrow hloc HL HS5)
        | (at_builtin; refine wpList_append_u8 _ rfl _ _ rfl wr.heap.size _ N (u8s fs) rfl HO6.out B m c2 (u8s bs) rfl (by rw [u8s_len]; exact HM.out) HS6.out (u8s_one _) (by have := HNN.out; have := HMS.out; omega) HB6.out.size ?_; intro v7 w7 hown hgrow hloc; have HB7 := Lib.hid (ownG_below hgrow HO6.out (Nat.le_refl _) HB6.out.size HB6.out); have hown : w7.ownsRow wr.heap.size 5 1 v7 (fs ++ bs).length (u8s (fs ++ bs)) := (by rw [u8s_app, List.length_append, ← HNf.out, HM.out]; exact hown); obtain ⟨A7, c7, rfl, hc7, hr7, -⟩ := own_byr hown; rw [HNB.out] at hc7 ⊢; have hR := read_any w7 A7 NB c7 (fs ++ bs) HNB.out (by rw [← HNB.out, List.length_append, ← HNf.out, HM.out]; have := HNN.out; have := HMS.out; omega) hc7 hr7 (fun x hx => (List.mem_append.1 hx).elim (HF256.out x) (HBS.out.2.2 x)); rw [HRD.out] at hR; have HRR := Lib.hid hR; clear hown hgrow hloc HO6 HS6 HB6 hc7 hr7 hR)
        | (go_at_call 9; refine HRR.out.mono ?_; rintro e w8 ⟨v8, l1, rfl, hown, hrec, hb⟩; have HO8 := Lib.hid hown; have HL8 := Lib.hid hrec; have HB8 := Lib.hid ((HBW.out.trans (HB7.out.mono HBW.out.size)).trans (hb.mono (Nat.le_trans HBW.out.size HB7.out.size))); clear hown hrec hb HRR HB7))
      have hR := read_any w8 B m c2 bs HM.out (by have := HMS.out; omega) HC.out (HBS.out.1.next HB8.out) HBS.out.2.2
      rw [← HRB.out] at hR
      have HRR := Lib.hid hR
      obtain ⟨A8, c8, rfl, -⟩ := ownG_slice HO8.out
      clear hR
      go_upto_region 16 with (go_at_call 9; refine HRR.out.mono ?_; rintro e w9 ⟨v9, l2, rfl, hown, hrec, hb⟩; have HO9 := Lib.hid hown; have HL9 := Lib.hid hrec; have HO89 := Lib.hid (ownG_next HO8.out hb); have HL89 := Lib.hid (HL8.out.next hb); have HB9 := Lib.hid (HB8.out.trans (hb.mono HB8.out.size)); clear hown hrec hb HRR HB8 HO8 HL8)
      obtain ⟨A9, c9, rfl, -⟩ := ownG_slice HO9.out
      obtain ⟨L1, hL1⟩ : ∃ L, L = l1.length := ⟨_, rfl⟩
      obtain ⟨L2, hL2⟩ : ∃ L, L = l2.length := ⟨_, rfl⟩
      have hlen := recs_len HL89.out HL9.out
      rw [← hL1, ← hL2, ← HP.out] at hlen
      have HL1 := Lib.hid hL1
      have HL2 := Lib.hid hL2
      have HLN := Lib.hid hlen
      have HT1' := Lib.hid HT1.out
      have HRT := Lib.hid (show rt ≤ 2000 by have := Fr.readB_le 3 9 bs; rw [← HRB.out] at this; have h2 := HMS.out; rw [HM.out] at this; exact Nat.le_trans this h2)
      have HRL := Lib.hid (show L2 ≤ 2000 by have := Fr.readB_many 3 9 bs; rw [← HRB.out] at this; have h2 := HMS.out; rw [HM.out] at this; have h3 := recs_len1 HL9.out; rw [← hL2] at h3; simp only at this; omega)
      rw [← hL1, ← hL2]
      clear hL1 hL2 hlen
      have w1 : wrap64 ((P : Int) + (L2 : Int)) = (L1 : Nat) := w_add P L2 L1 HLN.out (by have := HP12.out; have := HRL.out; omega)
      have w2 : wrap64 ((N : Int) + (rt : Int)) = (T1 : Nat) := w_add N rt T1 HT1.out (by have := HNN.out; have := HRT.out; omega)
      go_upto_region 18 with fail
      clear w1 w2
      go_upto_region 19 with fail
      go_loopw [16] (fun jv w10 => ∃ j : Nat, j ≤ L2 ∧ jv = .int .i64 j ∧ Below w9.heap.size w9 w10) (fun j _ => 3000 - (intOf j).toNat)
      case atStart => exact ⟨0, Nat.zero_le _, rfl, Below.refl _ _⟩
      case round =>
        obtain ⟨j, hj, rfl, hb⟩ := hrel
        have HB10 := Lib.hid hb
        clear hb
        by_cases hjl : j < L2
        · obtain ⟨x1, x2, hx1, hx2, hxk, hxb⟩ := recs_same HL89.out HL9.out (j := j) (by rw [← HL2.out]; exact hjl)
          rw [← HP.out] at hx1
          obtain ⟨J1, hJ1⟩ : ∃ J, J = P + j := ⟨_, rfl⟩
          rw [← hJ1] at hx1
          obtain ⟨g1, rfl, hr1⟩ := rec_src (ownG_next HO89.out HB10.out) hx1
          obtain ⟨g2, rfl, hr2⟩ := rec_src (ownG_next HO9.out HB10.out) hx2
          obtain ⟨r1a, r1b⟩ := recs_mem (HL89.out.next HB10.out) hx1
          obtain ⟨r2a, r2b⟩ := recs_mem (HL9.out.next HB10.out) hx2
          have HX1 := Lib.hid (And.intro r1a r1b)
          have HX2 := Lib.hid (And.intro r2a r2b)
          have HXK := Lib.hid hxk
          have HXB := Lib.hid hxb
          have H256 := Lib.hid (show ∀ y ∈ x1.bs, y < 256 from recs_256 (HL9.out) hx2 hxb (by have := Fr.readB_256 3 9 bs HBS.out.2.2; rw [← HRB.out] at this; exact this))
          have w1 : wrap64 ((P : Int) + (j : Int)) = (J1 : Nat) := w_add P j J1 hJ1 (by have := HP12.out; have := HRL.out; omega)
          have w1' : IntKind.i64.wrap ((P : Int) + (j : Int)) = (J1 : Nat) := w_addi P j J1 hJ1 (by have := HP12.out; have := HRL.out; omega)
          have i1 : J1 < L1 := by rw [hJ1, HLN.out]; omega
          have i2 : (J1 : Int) < (L1 : Nat) := by omega
          have i3 : (j : Int) < (L2 : Nat) := by omega
          clear hx1 hx2 r1a r1b r2a r2b hxk hxb hJ1
          go_upto_region 21 with fail
          refine wp_region_tree (S := (fun w' => w'.rangeAt g1 (J1 * 2) x1.cells ∧ w'.rangeAt g2 (j * 2) x2.cells)) (.take 0 (.take 1 (.take 2 (.take 3 (.take 4 (.take 5 (.take 7 (.take 8 (.take 9 (.take 10 (.one 6 (.one 11 (.take 12 .nil))))))))))))) 9999 (by kernel_rfl) (by kernel_rfl) (by kernel_rfl) (by kernel_rfl) (by kernel_rfl) (fun _ _ d _ _ h => by cases d <;> exact h) ⟨hr1, hr2⟩ (fun hHeld => ?_); simp only [Tree.map, List.getElem?_toArray, List.getElem?_cons_zero, List.getElem?_cons_succ]
          (repeat (first | (refine wpTree.take (v := undef) (Or.inr ⟨by rfl, rfl⟩) ?_; simp only [Act.put, List.setIfInBounds_toArray, List.set_cons_zero, List.set_cons_succ]) | (refine wpTree.take (v := .agg (Rc.cells ?_).toArray) (yieldsIf_load_mid rfl 24 _ rfl _ _ rfl (Rc.cells _) _ ?_ Try.underlying24 rfl (rcinfo _)) ?_; rotate_left; (focus (intro _ hS; (try dsimp only at hS); go_split_ands; assumption)); simp only [Act.put, List.setIfInBounds_toArray, List.set_cons_zero, List.set_cons_succ]) | (refine wpTree.take (v := ?_) (Or.inl ⟨by rfl, ?_⟩) ?_; rotate_left; (focus (intro _ hS; (try dsimp only at hS); go_split_ands; (try subst hS); go_simp; (try (with_reducible rfl)); done)); simp only [Act.put, List.setIfInBounds_toArray, List.set_cons_zero, List.set_cons_succ])))
          refine wpTree.one (fun K hK => ?_)
          go_simp
          go_at_call 7
          refine (as_any _ x1.k x1.A x1.bs.length x1.c x1.bs rfl ((HX1.out.1.next (Below.refl _ _).drew).byr.src HX1.out.2) (HXB.out ▸ H256.out)).mono ?_
          rintro e w11 ⟨rfl, hb⟩
          have hb' : Below wr.heap.size wr w11 := ⟨hb.os, hb.tape, hb.output, hb.size, hb.block⟩
          refine hK.out _ _ ⟨rng_next hr1 hb', rng_next hr2 hb'⟩ (fun _ => ?_)
          clear hK K hb
          (try simp only [Act.put, List.setIfInBounds_toArray, List.set_cons_zero, List.set_cons_succ])
          refine wpTree.one (fun K hK => ?_)
          go_simp
          go_at_call 7
          refine (as_any _ x2.k x2.A x2.bs.length x2.c x2.bs rfl ((HX2.out.1.next hb').byr.src HX2.out.2) (HXB.out ▸ H256.out)).mono ?_
          rintro e w12 ⟨rfl, hb2⟩
          have hb3 := hb'.trans (hb2.mono hb'.size)
          refine hK.out _ _ ⟨rng_next hr1 hb3, rng_next hr2 hb3⟩ (fun _ => ?_)
          clear hK K hb2
          have HB12 := Lib.hid (HB10.out.trans (hb3.mono HB10.out.size))
          clear hb3 hb' hr1 hr2
          rw [HXK.out, HXB.out]
          have hneq := fun w => neq_same w x2.k (bstr x2.bs)
          (try simp only [Act.put, List.setIfInBounds_toArray, List.set_cons_zero, List.set_cons_succ])
          (repeat (first | (refine wpTree.take (v := undef) (Or.inr ⟨by rfl, rfl⟩) ?_; simp only [Act.put, List.setIfInBounds_toArray, List.set_cons_zero, List.set_cons_succ]) | (refine wpTree.take (v := ?_) (Or.inl ⟨by rfl, ?_⟩) ?_; rotate_left; (focus (intro _ hS; (try dsimp only at hS); go_split_ands; (try subst hS); go_simp; (try (with_reducible rfl)); done)); simp only [Act.put, List.setIfInBounds_toArray, List.set_cons_zero, List.set_cons_succ])))
          refine wpTree.done ?_
          clear w1 w1' i1 i2 i3
          obtain ⟨j1, hj1⟩ : ∃ j1, j1 = j + 1 := ⟨_, rfl⟩
          have HEV := Lib.hid (w_one j j1 hj1 (by have := HRL.out; omega))
          have HJ1 := Lib.hid hj1
          have HJL := Lib.hid hjl
          clear hj1 hjl hj
          go_wp2_with fail
          go_roundw
          case rel => exact ⟨j1, by rw [HJ1.out]; exact HJL.out, by rw [HEV.out], HB12.out⟩
          case measure => exact down_one 3000 j j1 _ HEV.out HJ1.out (by have h1 := HRL.out; have h3 := HJL.out; omega)
        · have i3 : ¬ (j : Int) < (L2 : Nat) := by omega
          go_wp2_with (go_at_call 6; refine (alive_any _).mono ?_; rintro e w13 ⟨rfl, hb⟩; have HB13 := Lib.hid ((HB9.out.trans (HB10.out.mono HB9.out.size)).trans (hb.mono (Nat.le_trans HB9.out.size HB10.out.size))); clear hb)
          go_ret
          exact ⟨rfl, HB13.out⟩
set_option maxRecDepth 100000 in
theorem join_lifted (os : Os) (started : os.Started) (H : Type) (enc : TypeId × Value → H) :
    ReturnsInHanded {} Try.checked os 5 .any (Rows.framesJoinSpec.pre6 enc Try.prog Try.f5 Rows.framesJoinRow.domain false) (Rows.framesJoinSpec.post enc Try.prog Try.f5 false true false false) := by
  refine law_lift (C := Try.checked) own_knob started (by kernel_rfl) Try.func5 rfl Try.underlying4 laid_out (by kernel_rfl) rfl ?_
    (ChangeSpec.witness6 (enc := enc) (C := Try.checked) false ⟨#[], #[.slice none 0 0, .slice none 0 0], []⟩ 8 (by kernel_rfl) (by kernel_rfl) (by kernel_rfl) (by kernel_rfl)) ?_
  · intro ds hds
    match ds, hds with
    | [_, _], _ => rfl
  intro W base args ds ps hval hA hlt hsz
  rw [Try.params5] at hA hval
  obtain ⟨v0, vs0, d0, ds0, p0, q0, hargs, rfl, rfl, h0, r0⟩ := trodAll_cons hA
  obtain ⟨v1, vs1, d1, ds1, p1, q1, rfl, rfl, rfl, h1, r1⟩ := trodAll_cons r0
  obtain ⟨rfl, rfl, rfl⟩ := trodAll_nil r1
  obtain rfl : args = #[v0, v1] := by cases args; simp_all
  obtain ⟨A, c, l, rfl, hl, hc, hr, hok⟩ := open_rows Try.underlying32 2 cells_rc (by omega) Rc.cells (Rc.Ok W) ⟨0, none, 0, []⟩ rc_len (hval 0 32 v0 rfl rfl) h0 (fun x hx => hlt x (by simp [hx])) (fun _ _ _ _ h hlt => open_rc h hlt)
  obtain ⟨B, m, c2, bs, rfl, hm, hc2, _, h256, hb, hB⟩ := open_bytes (hval 1 22 v1 rfl rfl) h1 (fun x hx => hlt x (by simp [hx]))
  exact join_walk W A B l.length c m c2 l bs rfl hm hc2 hr hok hb hB h256

theorem join_holds : Rows.FramesJoinSaid :=
  OpenClaim.holds_of_wide 5 Try.f5 rfl rfl rfl rfl rfl rfl rfl ⟨rfl, rfl, rfl, rfl, rfl⟩ rfl rfl rfl rfl rfl (by kernel_rfl) Try.func5 (by kernel_rfl)
    (of_decide_eq_true (by kernel_rfl)) (by unfold Func.isWrapper; first | (rw [if_pos (by decide +kernel)]; kernel_rfl) | (rw [if_neg (by decide +kernel)]; exact ⟨rfl, rfl⟩))
    (fun os started H enc _ => join_lifted os started H enc)

end Go.Proofs.Ytejehmimidnaiaa

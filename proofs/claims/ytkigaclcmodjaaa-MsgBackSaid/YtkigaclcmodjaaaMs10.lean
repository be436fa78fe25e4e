/-
MsgBack holds: messages go there and back, in one way alone; cut anywhere, their bytes are none; each is a text of a link. No condition.
-/
import Derived.Test.YtkigaclcmodjaaaMs9
import Derived.Test.YtkigaclcmodjaaaLBack
namespace Go.Proofs.Ytkigaclcmodjaaa
open Go.RowKit Go.ChangeShapes Go.WideShapes Go.ChangeAt
set_option linter.unusedSimpArgs false
set_option linter.unusedVariables false
namespace Mg
theorem zM0_right : rightM (zM 0) = false := by
  unfold rightM
  rw [show bodyM (zM 0) = false from rfl, Bool.and_false]
theorem msread_no' (A : Option Addr) (n cp : Nat) (W : World) (bs : List Nat) (hn : bs.length = n) (hnc : n ≤ cp) (hby : ∀ x ∈ bs, x < 256) (hbs : ByR W A bs) (h : ∀ l, msgP bs ≠ .ok (l, [])) :
    Calls Try.prog 20 #[.slice A n cp] W fun e W' => e = .returned (.tuple #[.agg (zM 0).cells.toArray, .int .i64 3]) ∧ Below W.heap.size W W' := by
  rw [zM_cells]
  exact msread_no A n cp W bs hn hnc hby hbs h
theorem encM_pos (m : Ms) : 0 < (encM m).length := by
  unfold encM
  have := enc_pos (wordN m.k)
  rw [List.length_append]
  omega
theorem encM_len {m : Ms} (hr : rightM m = true) (ho : Ms.Ok m) : (encM m).length ≤ 600 := by
  have hb := body_of hr
  unfold bodyM at hb
  unfold encM
  have e1 := enc_len _ (wordN_lt m.k)
  have e2 := enc_len _ (wordN_lt m.se)
  have e3 := enc_len _ (wordN_lt m.co)
  have e4 := enc_len _ (wordN_lt m.ca)
  have e5 := enc_len _ (wordN_lt m.ro)
  have e6 : (encSt m.s).length ≤ 200 := by
    unfold encSt
    have := enc_len 1 (by decide)
    have := enc_len 0 (by decide)
    have := enc_len m.s.t ho.s.t
    have := encV_len m.s.f ho.s.f
    split <;> (try simp only [List.length_append]) <;> omega
  rcases kd_any m.k with ⟨_, h1, h2, h3, h4, h5⟩ | ⟨_, h1, h2, h3, h4, h5⟩ | ⟨_, h1, h2, h3, h4, h5⟩ | ⟨_, h1, h2, h3, h4, h5⟩ | ⟨_, h1, h2, h3, h4, h5⟩ | ⟨_, h1, h2, h3, h4, h5⟩
  all_goals rw [h1, h2, h3, h4] at hb
  all_goals rw [h1, h2, h3, h4, h5]
  all_goals simp only [Bool.false_eq_true, if_false, if_true, Bool.and_eq_true] at hb
  all_goals simp only [Bool.false_eq_true, if_false, if_true, List.append_nil, List.nil_append, List.length_append]
  · have := encL_len hb ho.l
    omega
  · have : (encE m.x).length ≤ 300 := by unfold encE; rw [List.length_append]; have := encL_len (rightE_parts hb).1 ho.x; have := encO_len (may_ok (rightE_parts hb).2 ho.p); omega
    omega
  · omega
  · omega
  · omega
theorem byr_takeM {W : World} {A : Option Addr} {bs : List Nat} (h : ByR W A bs) (k : Nat) : ByR W A (bs.take k) := by
  rcases h with rfl | ⟨q, o, e, hq, hc⟩
  · left; simp
  · right
    refine ⟨q, o, e, hq, fun i x hx => hc i x ?_⟩
    rw [List.getElem?_take] at hx
    split at hx
    · exact hx
    · cases hx
set_option maxRecDepth 20000 in
set_option maxHeartbeats 16000000 in
theorem back_walk (p : Ms) (hp : Ms.Bd p) (As : Option Addr) (n cs : Nat) (sb : List Nat) (cut : Int) (W : World) (hn : sb.length = n) (hnc : n ≤ cs) (hb256 : ∀ x ∈ sb, x < 256) (hby : ByR W As sb) (hnone : As = none → sb = []) :
    Calls Try.prog 4 #[.agg (Ms.plain p).toArray, .slice As n cs, .int .i64 cut] W fun e W' => e = .returned (.bool true) ∧ Below W.heap.size W W' := by
  have bA := Blk.new W 60 (Ms.plain p).toArray
  have hB := (Below.refl W.heap.size W).alloc (Nat.le_refl _) (.cells (Ms.plain p).toArray 60)
  obtain ⟨w1, hw1⟩ : ∃ w1, w1 = W.alloc (.cells (Ms.plain p).toArray 60) := ⟨_, rfl⟩
  rw [← hw1] at bA hB
  have Hw1 := Lib.hid (show Below W.heap.size W w1 ∧ ByR w1 As sb from ⟨hB, hby.next hB⟩)
  have HP1 := Lib.hid bA
  have HOP := Lib.hid hp.ok
  have HL := Lib.hid hn
  have HLC := Lib.hid hnc
  have HB := Lib.hid hb256
  have HSN := Lib.hid hnone
  have HW1 := Lib.hid hw1
  clear hp hn hnc hb256 hby hnone bA hB hw1
  by_cases hbig : (400 : Int) < (n : Nat)
  · go_enter Try.func4, Try.ntmps4
    go_upto_region 1 with fail
    rw [← HW1.out]
    go_wp2_with (go_at_call 7; refine (alive23_any _).mono ?_; rintro e w6 ⟨rfl, hb⟩; have HB6 := Lib.hid (Hw1.out.1.trans (hb.mono Hw1.out.1.size)); clear hb)
    go_ret
    exact ⟨rfl, HB6.out⟩
  have rp := HP1.out.range
  go_enter Try.func4, Try.ntmps4
  go_upto_region 1 with fail
  rw [← HW1.out]
  clear HW1
  go_wp2_with (first | (refine wpList_load_midg (by rfl) 60 _ rfl _ _ rfl (Ms.plain ?_) _ ?_ Try.underlying60 rfl (pminfo _) ?_; rotate_left; (focus assumption)))
  clear rp hbig
  refine (plainmsg_any p w1).mono ?_
  rintro e w2 ⟨rfl, hb⟩
  have Hw2 := Lib.hid (show Below W.heap.size W w2 ∧ ByR w2 As sb from ⟨Hw1.out.1.trans (hb.mono Hw1.out.1.size), Hw1.out.2.next hb⟩)
  have HP2 := Lib.hid (HP1.out.next hb)
  clear hb Hw1 HP1
  go_wp2_with fail
  cases hrp : rightM p with
  | false =>
    refine (ms_write_no p w2 hrp).mono ?_
    rintro e w3 ⟨rfl, hb⟩
    have Hw3 := Lib.hid (show Below W.heap.size W w3 ∧ ByR w3 As sb from ⟨Hw2.out.1.trans (hb.mono Hw2.out.1.size), Hw2.out.2.next hb⟩)
    have HP3 := Lib.hid (HP2.out.next hb)
    clear hb Hw2 HP2
    clear hrp HP3
    by_cases hP : ∃ m, msgP sb = .ok (m, [])
    · obtain ⟨mm, hm⟩ := hP
      obtain ⟨e1, e2, e3⟩ := msg_ok HB.out hm
      rw [List.append_nil] at e1
      have HE := Lib.hid e1.symm
      have HR2 := Lib.hid e2
      have HO2 := Lib.hid e3
      have HX := Lib.hid (msread_yes As n cs w3 sb HL.out HLC.out HB.out (Hw3).out.2 mm hm)
      clear hm e1 e2 e3
      go_wp2_with fail
      refine HX.out.mono ?_
      rintro e y1 ⟨rfl, hb⟩
      have H1 := Lib.hid (show Below W.heap.size W y1 ∧ ByR y1 As sb from ⟨(Hw3).out.1.trans (hb.mono (Hw3).out.1.size), (Hw3).out.2.next hb⟩)
      clear hb HX
      go_wp2_with (first | (refine wpList_store_blk rfl 50 _ _ rfl (y1).heap.size 50 zmsA mm.cells.toArray rfl rfl (Blk.new' rfl) (msinfoA _) (zms_siz _) (ms_one _) ?_; intro hy; have hbn : Below (y1).heap.size y1 (((y1).alloc (.cells zmsA 50)).setRow (y1).heap.size mm.cells.toArray) := below_setRow ((Below.refl _ _).alloc (Nat.le_refl _) _) (Nat.le_refl _) _; obtain ⟨y2, hnw⟩ : ∃ y2, y2 = (((y1).alloc (.cells zmsA 50)).setRow (y1).heap.size mm.cells.toArray) := ⟨_, rfl⟩; rw [← hnw] at hbn hy ⊢; clear hnw; have rm := hy.range) | (refine wpList_load_midg (by rfl) 50 _ rfl _ _ rfl (Ms.cells ?_) _ ?_ Try.underlying50 rfl (msinfo _) ?_; rotate_left; (focus assumption)))
      have H2 := Lib.hid (show Below W.heap.size W y2 ∧ ByR y2 As sb from ⟨H1.out.1.trans (hbn.mono H1.out.1.size), H1.out.2.next hbn⟩)
      clear hbn H1 hy rm
      refine (ms_write_yes mm y2 HR2.out HO2.out).mono ?_
      rintro e y3 ⟨v3, rfl, hown, hb⟩
      have hv3 := BytesAt.of hown
      rw [HE.out] at hv3
      have HV3 := Lib.hid hv3
      have H3 := Lib.hid (show Below W.heap.size W y3 ∧ ByR y3 As sb from ⟨H2.out.1.trans (hb.mono H2.out.1.size), H2.out.2.next hb⟩)
      clear hown hb H2 hv3 HE
      go_wp2_with fail
      refine (alive23_any y3).mono ?_
      rintro e y4 ⟨rfl, hb⟩
      have cv1 := (HV3.out.next hb).conv HB.out
      have H4 := Lib.hid (H3.out.1.trans (hb.mono H3.out.1.size))
      have cv2 := conv_src y4 As n cs sb (HL.out ▸ (H3.out.2.next hb).src HSN.out) HL.out HB.out
      clear hb H3 HV3
      go_wp2_with fail
      go_ret
      exact ⟨by first | rfl | simp, H4.out⟩
    · have HX := Lib.hid (msread_no' As n cs w3 sb HL.out HLC.out HB.out (Hw3).out.2 (fun m hm => hP ⟨m, hm⟩))
      clear hP
      go_wp2_with fail
      refine HX.out.mono ?_
      rintro e y1 ⟨rfl, hb⟩
      have H1 := Lib.hid ((Hw3).out.1.trans (hb.mono (Hw3).out.1.size))
      clear hb HX
      go_wp2_with (first | (refine wpList_store_blk rfl 50 _ _ rfl (y1).heap.size 50 zmsA (zM 0).cells.toArray rfl rfl (Blk.new' rfl) (msinfoA _) (zms_siz _) (ms_one _) ?_; intro hy; have hbn : Below (y1).heap.size y1 (((y1).alloc (.cells zmsA 50)).setRow (y1).heap.size (zM 0).cells.toArray) := below_setRow ((Below.refl _ _).alloc (Nat.le_refl _) _) (Nat.le_refl _) _; obtain ⟨y2, hnw⟩ : ∃ y2, y2 = (((y1).alloc (.cells zmsA 50)).setRow (y1).heap.size (zM 0).cells.toArray) := ⟨_, rfl⟩; rw [← hnw] at hbn hy ⊢; clear hnw; have rm := hy.range) | (refine wpList_load_midg (by rfl) 50 _ rfl _ _ rfl (Ms.cells ?_) _ ?_ Try.underlying50 rfl (msinfo _) ?_; rotate_left; (focus assumption)))
      have H2 := Lib.hid (H1.out.trans (hbn.mono H1.out.size))
      clear hbn H1 hy rm
      refine (ms_write_no (zM 0) y2 zM0_right).mono ?_
      rintro e y3 ⟨rfl, hb⟩
      have H3 := Lib.hid (H2.out.trans (hb.mono H2.out.size))
      clear hb H2
      go_wp2_with fail
      refine (alive23_any y3).mono ?_
      rintro e y4 ⟨rfl, hb⟩
      have H4 := Lib.hid (H3.out.trans (hb.mono H3.out.size))
      clear hb H3
      go_wp2_with fail
      go_ret
      exact ⟨rfl, H4.out⟩
  | true =>
    refine (ms_write_yes p w2 hrp HOP.out).mono ?_
    rintro e w3 ⟨va, rfl, hown, hb⟩
    have Hw3 := Lib.hid (show Below W.heap.size W w3 ∧ ByR w3 As sb from ⟨Hw2.out.1.trans (hb.mono Hw2.out.1.size), Hw2.out.2.next hb⟩)
    have HP3 := Lib.hid (HP2.out.next hb)
    have HVA3 := Lib.hid (BytesAt.of hown)
    clear hown
    clear hb Hw2 HP2
    have HSM := Lib.hid (show sameM p p = true from (sameM_iff _ _).2 rfl)
    have HCL := Lib.hid (asM_cells hrp)
    have HYE := Lib.hid (msg_yes hrp HOP.out)
    have HCT := Lib.hid (fun k hk => msg_cut hrp HOP.out (k := k) hk)
    have HLEN := Lib.hid (encM_len hrp HOP.out)
    have HPOS := Lib.hid (encM_pos p)
    have HLT := Lib.hid (encM_lt p)
    obtain ⟨E, hE⟩ : ∃ E, E = encM p := ⟨_, rfl⟩
    rw [← hE] at HVA3 HYE HCT HLEN HPOS HLT
    obtain ⟨N, hN⟩ : ∃ N, N = E.length := ⟨_, rfl⟩
    have HN := Lib.hid hN
    obtain ⟨A1, c1, hva, hc1, hA1, hA10⟩ := HVA3.out
    rw [← hN] at hva hc1
    have HC1 := Lib.hid hc1
    have HA3 := Lib.hid hA1
    subst hva
    clear hE hN hrp hc1 hA1 hA10 HVA3
    go_wp2_with fail
    refine (msread_yes A1 N c1 w3 E HN.out.symm HC1.out HLT.out HA3.out (asM p) HYE.out).mono ?_
    rintro e w4 ⟨rfl, hb⟩
    have Hw4 := Lib.hid (show Below W.heap.size W w4 ∧ ByR w4 As sb from ⟨Hw3.out.1.trans (hb.mono Hw3.out.1.size), Hw3.out.2.next hb⟩)
    have HP4 := Lib.hid (HP3.out.next hb)
    have HA4 := Lib.hid (HA3.out.next hb)
    rw [HCL.out]
    clear hb Hw3 HP3 HA3
    go_upto_region 6 with (refine wpList_store_blk rfl 50 _ _ rfl (w4).heap.size 50 zmsA p.cells.toArray rfl rfl (Blk.new' rfl) (msinfoA _) (zms_siz _) (ms_one _) ?_; intro hy; have hbn : Below (w4).heap.size w4 (((w4).alloc (.cells zmsA 50)).setRow (w4).heap.size p.cells.toArray) := below_setRow ((Below.refl _ _).alloc (Nat.le_refl _) _) (Nat.le_refl _) _; obtain ⟨w5, hnw⟩ : ∃ w5, w5 = (((w4).alloc (.cells zmsA 50)).setRow (w4).heap.size p.cells.toArray) := ⟨_, rfl⟩; rw [← hnw] at hbn hy ⊢; clear hnw; skip)
    have Hw5 := Lib.hid (show Below W.heap.size W w5 ∧ ByR w5 As sb from ⟨Hw4.out.1.trans (hbn.mono Hw4.out.1.size), Hw4.out.2.next hbn⟩)
    have HP5 := Lib.hid (HP4.out.next hbn)
    have HA5 := Lib.hid (HA4.out.next hbn)
    obtain ⟨g4, hg4⟩ : ∃ g4, g4 = w4.heap.size := ⟨_, rfl⟩
    rw [← hg4] at hy ⊢
    have rm := hy.range
    have rp := HP5.out.range
    have n1 : ¬ (N : Int) < 1 := by have := HPOS.out; have := HN.out; omega
    have n2 : ¬ (1800 : Int) < (N : Nat) := by have := HLEN.out; have := HN.out; omega
    have HS := Lib.hid (same_any p p)
    rw [HSM.out] at HS
    clear hbn hy hg4 Hw4 HP4 HA4 HSM HCL HYE
    refine wp_region_tree (S := (fun w' => Below w5.heap.size w5 w' ∧ w'.rangeAt g4 0 p.cells ∧ w'.rangeAt W.heap.size 0 (Ms.plain p))) (.take 0 (.take 1 (.take 2 (.take 3 (.take 4 (.one 5 (.one 6 (.take 7 (.take 8 (.take 9 (.take 10 (.take 11 (.take 12 (.take 13 (.take 14 (.take 15 (.take 16 (.take 17 (.take 18 .nil))))))))))))))))))) 9999 (by kernel_rfl) (by kernel_rfl) (by kernel_rfl) (by kernel_rfl) (by kernel_rfl) (fun _ _ d _ _ h => by cases d <;> exact h) ⟨(Below.refl _ _).drew, rm, rp⟩ (fun hHeld => ?_); simp only [Tree.map, List.getElem?_toArray, List.getElem?_cons_zero, List.getElem?_cons_succ]
    (repeat (first | (refine wpTree.take (v := undef) (Or.inr ⟨by rfl, rfl⟩) ?_; simp only [Act.put, List.setIfInBounds_toArray, List.set_cons_zero, List.set_cons_succ]) | (refine wpTree.take (v := .agg (Ms.plain ?_).toArray) (yieldsIf_load_mid rfl 60 _ rfl _ _ rfl (Ms.plain _) _ ?_ Try.underlying60 rfl (pminfo _)) ?_; rotate_left; (focus (intro _ hS; exact hS.2.2)); simp only [Act.put, List.setIfInBounds_toArray, List.set_cons_zero, List.set_cons_succ]) | (refine wpTree.take (v := .agg (Ms.cells ?_).toArray) (yieldsIf_load_mid rfl 50 _ rfl _ _ rfl (Ms.cells _) _ ?_ Try.underlying50 rfl (msinfo _)) ?_; rotate_left; (focus (intro _ hS; exact hS.2.1)); simp only [Act.put, List.setIfInBounds_toArray, List.set_cons_zero, List.set_cons_succ]) | (refine wpTree.take (v := ?_) (Or.inl ⟨by rfl, ?_⟩) ?_; rotate_left; (focus (intro _ hS; (try dsimp only at hS); go_split_ands; (try subst hS); go_simp; (try (with_reducible rfl)); done)); simp only [Act.put, List.setIfInBounds_toArray, List.set_cons_zero, List.set_cons_succ])))
    refine wpTree.one (fun K hK => ?_)
    go_simp
    go_at_call 19
    refine (plainmsg_any p _).mono ?_
    rintro e w6 ⟨rfl, hb⟩
    refine hK.out _ _ ⟨hHeld.1.trans (hb.mono hHeld.1.size), range_next hb hHeld.2.1, range_next hb hHeld.2.2⟩ (fun hHeld => ?_)
    clear hK K hb
    (try simp only [Act.put, List.setIfInBounds_toArray, List.set_cons_zero, List.set_cons_succ])
    refine wpTree.one (fun K hK => ?_)
    go_simp
    go_at_call 21
    refine (HS.out _).mono ?_
    rintro e w7 ⟨rfl, hb⟩
    refine hK.out _ _ ⟨hHeld.1.trans (hb.mono hHeld.1.size), range_next hb hHeld.2.1, range_next hb hHeld.2.2⟩ (fun hHeld => ?_)
    clear hK K hb
    (try simp only [Act.put, List.setIfInBounds_toArray, List.set_cons_zero, List.set_cons_succ])
    (repeat (first | (refine wpTree.take (v := undef) (Or.inr ⟨by rfl, rfl⟩) ?_; simp only [Act.put, List.setIfInBounds_toArray, List.set_cons_zero, List.set_cons_succ]) | (refine wpTree.take (v := .agg (Ms.plain ?_).toArray) (yieldsIf_load_mid rfl 60 _ rfl _ _ rfl (Ms.plain _) _ ?_ Try.underlying60 rfl (pminfo _)) ?_; rotate_left; (focus (intro _ hS; exact hS.2.2)); simp only [Act.put, List.setIfInBounds_toArray, List.set_cons_zero, List.set_cons_succ]) | (refine wpTree.take (v := .agg (Ms.cells ?_).toArray) (yieldsIf_load_mid rfl 50 _ rfl _ _ rfl (Ms.cells _) _ ?_ Try.underlying50 rfl (msinfo _)) ?_; rotate_left; (focus (intro _ hS; exact hS.2.1)); simp only [Act.put, List.setIfInBounds_toArray, List.set_cons_zero, List.set_cons_succ]) | (refine wpTree.take (v := ?_) (Or.inl ⟨by rfl, ?_⟩) ?_; rotate_left; (focus (intro _ hS; (try dsimp only at hS); go_split_ands; (try subst hS); go_simp; (try (with_reducible rfl)); done)); simp only [Act.put, List.setIfInBounds_toArray, List.set_cons_zero, List.set_cons_succ])))
    refine wpTree.done ?_
    have Hw7 := Lib.hid (show Below W.heap.size W w7 ∧ ByR w7 As sb from ⟨Hw5.out.1.trans (hHeld.1.mono Hw5.out.1.size), (Hw5.out.2.next hHeld.1)⟩)
    have HA7 := Lib.hid (HA5.out.next hHeld.1)
    clear hHeld rm rp HS Hw5 HP5 HA5 n1 n2
    by_cases hc0 : 0 ≤ cut
    · obtain ⟨k, rfl⟩ := Int.eq_ofNat_of_zero_le hc0
      have g0 : decide (0 ≤ (k : Int)) = true := decide_eq_true hc0
      clear hc0
      by_cases hkN : k < N
      · have g1 : decide ((k : Int) < (N : Int)) = true := by simp; omega
        have hkc : k ≤ c1 := by have := HC1.out; omega
        have HNO := Lib.hid (fun w h => msread_no' A1 k c1 w (E.take k) (by rw [List.length_take]; have := HN.out; omega) hkc (fun y hy => HLT.out y (List.mem_of_mem_take hy)) h (HCT.out k (by have := HN.out; omega)))
        go_wp2_with fail
        clear hkN hkc
        refine (HNO.out _ (byr_takeM HA7.out k)).mono ?_
        rintro e w8 ⟨rfl, hb⟩
        have Hw8 := Lib.hid (show Below W.heap.size W w8 ∧ ByR w8 As sb from ⟨Hw7.out.1.trans (hb.mono Hw7.out.1.size), Hw7.out.2.next hb⟩)
        clear hb Hw7 HA7 HNO
        go_upto_region 12 with (refine wpList_store_blk rfl 50 _ _ rfl (w8).heap.size 50 zmsA (zM 0).cells.toArray rfl rfl (Blk.new' rfl) (msinfoA _) (zms_siz _) (ms_one _) ?_; intro hy; have hbn : Below (w8).heap.size w8 (((w8).alloc (.cells zmsA 50)).setRow (w8).heap.size (zM 0).cells.toArray) := below_setRow ((Below.refl _ _).alloc (Nat.le_refl _) _) (Nat.le_refl _) _; obtain ⟨w9, hnw⟩ : ∃ w9, w9 = (((w8).alloc (.cells zmsA 50)).setRow (w8).heap.size (zM 0).cells.toArray) := ⟨_, rfl⟩; rw [← hnw] at hbn hy ⊢; clear hnw; skip)
        have Hw9 := Lib.hid (show Below W.heap.size W w9 ∧ ByR w9 As sb from ⟨Hw8.out.1.trans (hbn.mono Hw8.out.1.size), Hw8.out.2.next hbn⟩)
        clear hbn hy Hw8
        by_cases hP : ∃ m, msgP sb = .ok (m, [])
        · obtain ⟨mm, hm⟩ := hP
          obtain ⟨e1, e2, e3⟩ := msg_ok HB.out hm
          rw [List.append_nil] at e1
          have HE := Lib.hid e1.symm
          have HR2 := Lib.hid e2
          have HO2 := Lib.hid e3
          have HX := Lib.hid (msread_yes As n cs w9 sb HL.out HLC.out HB.out (Hw9).out.2 mm hm)
          clear hm e1 e2 e3
          go_wp2_with fail
          refine HX.out.mono ?_
          rintro e y1 ⟨rfl, hb⟩
          have H1 := Lib.hid (show Below W.heap.size W y1 ∧ ByR y1 As sb from ⟨(Hw9).out.1.trans (hb.mono (Hw9).out.1.size), (Hw9).out.2.next hb⟩)
          clear hb HX
          go_wp2_with (first | (refine wpList_store_blk rfl 50 _ _ rfl (y1).heap.size 50 zmsA mm.cells.toArray rfl rfl (Blk.new' rfl) (msinfoA _) (zms_siz _) (ms_one _) ?_; intro hy; have hbn : Below (y1).heap.size y1 (((y1).alloc (.cells zmsA 50)).setRow (y1).heap.size mm.cells.toArray) := below_setRow ((Below.refl _ _).alloc (Nat.le_refl _) _) (Nat.le_refl _) _; obtain ⟨y2, hnw⟩ : ∃ y2, y2 = (((y1).alloc (.cells zmsA 50)).setRow (y1).heap.size mm.cells.toArray) := ⟨_, rfl⟩; rw [← hnw] at hbn hy ⊢; clear hnw; have rm := hy.range) | (refine wpList_load_midg (by rfl) 50 _ rfl _ _ rfl (Ms.cells ?_) _ ?_ Try.underlying50 rfl (msinfo _) ?_; rotate_left; (focus assumption)))
          have H2 := Lib.hid (show Below W.heap.size W y2 ∧ ByR y2 As sb from ⟨H1.out.1.trans (hbn.mono H1.out.1.size), H1.out.2.next hbn⟩)
          clear hbn H1 hy rm
          refine (ms_write_yes mm y2 HR2.out HO2.out).mono ?_
          rintro e y3 ⟨v3, rfl, hown, hb⟩
          have hv3 := BytesAt.of hown
          rw [HE.out] at hv3
          have HV3 := Lib.hid hv3
          have H3 := Lib.hid (show Below W.heap.size W y3 ∧ ByR y3 As sb from ⟨H2.out.1.trans (hb.mono H2.out.1.size), H2.out.2.next hb⟩)
          clear hown hb H2 hv3 HE
          go_wp2_with fail
          refine (alive23_any y3).mono ?_
          rintro e y4 ⟨rfl, hb⟩
          have cv1 := (HV3.out.next hb).conv HB.out
          have H4 := Lib.hid (H3.out.1.trans (hb.mono H3.out.1.size))
          have cv2 := conv_src y4 As n cs sb (HL.out ▸ (H3.out.2.next hb).src HSN.out) HL.out HB.out
          clear hb H3 HV3
          go_wp2_with fail
          go_ret
          exact ⟨by first | rfl | simp, H4.out⟩
        · have HX := Lib.hid (msread_no' As n cs w9 sb HL.out HLC.out HB.out (Hw9).out.2 (fun m hm => hP ⟨m, hm⟩))
          clear hP
          go_wp2_with fail
          refine HX.out.mono ?_
          rintro e y1 ⟨rfl, hb⟩
          have H1 := Lib.hid ((Hw9).out.1.trans (hb.mono (Hw9).out.1.size))
          clear hb HX
          go_wp2_with (first | (refine wpList_store_blk rfl 50 _ _ rfl (y1).heap.size 50 zmsA (zM 0).cells.toArray rfl rfl (Blk.new' rfl) (msinfoA _) (zms_siz _) (ms_one _) ?_; intro hy; have hbn : Below (y1).heap.size y1 (((y1).alloc (.cells zmsA 50)).setRow (y1).heap.size (zM 0).cells.toArray) := below_setRow ((Below.refl _ _).alloc (Nat.le_refl _) _) (Nat.le_refl _) _; obtain ⟨y2, hnw⟩ : ∃ y2, y2 = (((y1).alloc (.cells zmsA 50)).setRow (y1).heap.size (zM 0).cells.toArray) := ⟨_, rfl⟩; rw [← hnw] at hbn hy ⊢; clear hnw; have rm := hy.range) | (refine wpList_load_midg (by rfl) 50 _ rfl _ _ rfl (Ms.cells ?_) _ ?_ Try.underlying50 rfl (msinfo _) ?_; rotate_left; (focus assumption)))
          have H2 := Lib.hid (H1.out.trans (hbn.mono H1.out.size))
          clear hbn H1 hy rm
          refine (ms_write_no (zM 0) y2 zM0_right).mono ?_
          rintro e y3 ⟨rfl, hb⟩
          have H3 := Lib.hid (H2.out.trans (hb.mono H2.out.size))
          clear hb H2
          go_wp2_with fail
          refine (alive23_any y3).mono ?_
          rintro e y4 ⟨rfl, hb⟩
          have H4 := Lib.hid (H3.out.trans (hb.mono H3.out.size))
          clear hb H3
          go_wp2_with fail
          go_ret
          exact ⟨rfl, H4.out⟩
      · have g1 : decide ((k : Int) < (N : Int)) = false := by simp; omega
        by_cases hP : ∃ m, msgP sb = .ok (m, [])
        · obtain ⟨mm, hm⟩ := hP
          obtain ⟨e1, e2, e3⟩ := msg_ok HB.out hm
          rw [List.append_nil] at e1
          have HE := Lib.hid e1.symm
          have HR2 := Lib.hid e2
          have HO2 := Lib.hid e3
          have HX := Lib.hid (msread_yes As n cs w7 sb HL.out HLC.out HB.out (Hw7).out.2 mm hm)
          clear hm e1 e2 e3
          go_wp2_with fail
          refine HX.out.mono ?_
          rintro e y1 ⟨rfl, hb⟩
          have H1 := Lib.hid (show Below W.heap.size W y1 ∧ ByR y1 As sb from ⟨(Hw7).out.1.trans (hb.mono (Hw7).out.1.size), (Hw7).out.2.next hb⟩)
          clear hb HX
          go_wp2_with (first | (refine wpList_store_blk rfl 50 _ _ rfl (y1).heap.size 50 zmsA mm.cells.toArray rfl rfl (Blk.new' rfl) (msinfoA _) (zms_siz _) (ms_one _) ?_; intro hy; have hbn : Below (y1).heap.size y1 (((y1).alloc (.cells zmsA 50)).setRow (y1).heap.size mm.cells.toArray) := below_setRow ((Below.refl _ _).alloc (Nat.le_refl _) _) (Nat.le_refl _) _; obtain ⟨y2, hnw⟩ : ∃ y2, y2 = (((y1).alloc (.cells zmsA 50)).setRow (y1).heap.size mm.cells.toArray) := ⟨_, rfl⟩; rw [← hnw] at hbn hy ⊢; clear hnw; have rm := hy.range) | (refine wpList_load_midg (by rfl) 50 _ rfl _ _ rfl (Ms.cells ?_) _ ?_ Try.underlying50 rfl (msinfo _) ?_; rotate_left; (focus assumption)))
          have H2 := Lib.hid (show Below W.heap.size W y2 ∧ ByR y2 As sb from ⟨H1.out.1.trans (hbn.mono H1.out.1.size), H1.out.2.next hbn⟩)
          clear hbn H1 hy rm
          refine (ms_write_yes mm y2 HR2.out HO2.out).mono ?_
          rintro e y3 ⟨v3, rfl, hown, hb⟩
          have hv3 := BytesAt.of hown
          rw [HE.out] at hv3
          have HV3 := Lib.hid hv3
          have H3 := Lib.hid (show Below W.heap.size W y3 ∧ ByR y3 As sb from ⟨H2.out.1.trans (hb.mono H2.out.1.size), H2.out.2.next hb⟩)
          clear hown hb H2 hv3 HE
          go_wp2_with fail
          refine (alive23_any y3).mono ?_
          rintro e y4 ⟨rfl, hb⟩
          have cv1 := (HV3.out.next hb).conv HB.out
          have H4 := Lib.hid (H3.out.1.trans (hb.mono H3.out.1.size))
          have cv2 := conv_src y4 As n cs sb (HL.out ▸ (H3.out.2.next hb).src HSN.out) HL.out HB.out
          clear hb H3 HV3
          go_wp2_with fail
          go_ret
          exact ⟨by first | rfl | simp, H4.out⟩
        · have HX := Lib.hid (msread_no' As n cs w7 sb HL.out HLC.out HB.out (Hw7).out.2 (fun m hm => hP ⟨m, hm⟩))
          clear hP
          go_wp2_with fail
          refine HX.out.mono ?_
          rintro e y1 ⟨rfl, hb⟩
          have H1 := Lib.hid ((Hw7).out.1.trans (hb.mono (Hw7).out.1.size))
          clear hb HX
          go_wp2_with (first | (refine wpList_store_blk rfl 50 _ _ rfl (y1).heap.size 50 zmsA (zM 0).cells.toArray rfl rfl (Blk.new' rfl) (msinfoA _) (zms_siz _) (ms_one _) ?_; intro hy; have hbn : Below (y1).heap.size y1 (((y1).alloc (.cells zmsA 50)).setRow (y1).heap.size (zM 0).cells.toArray) := below_setRow ((Below.refl _ _).alloc (Nat.le_refl _) _) (Nat.le_refl _) _; obtain ⟨y2, hnw⟩ : ∃ y2, y2 = (((y1).alloc (.cells zmsA 50)).setRow (y1).heap.size (zM 0).cells.toArray) := ⟨_, rfl⟩; rw [← hnw] at hbn hy ⊢; clear hnw; have rm := hy.range) | (refine wpList_load_midg (by rfl) 50 _ rfl _ _ rfl (Ms.cells ?_) _ ?_ Try.underlying50 rfl (msinfo _) ?_; rotate_left; (focus assumption)))
          have H2 := Lib.hid (H1.out.trans (hbn.mono H1.out.size))
          clear hbn H1 hy rm
          refine (ms_write_no (zM 0) y2 zM0_right).mono ?_
          rintro e y3 ⟨rfl, hb⟩
          have H3 := Lib.hid (H2.out.trans (hb.mono H2.out.size))
          clear hb H2
          go_wp2_with fail
          refine (alive23_any y3).mono ?_
          rintro e y4 ⟨rfl, hb⟩
          have H4 := Lib.hid (H3.out.trans (hb.mono H3.out.size))
          clear hb H3
          go_wp2_with fail
          go_ret
          exact ⟨rfl, H4.out⟩
    · have g0 : decide (0 ≤ cut) = false := by simpa using hc0
      clear hc0
      by_cases hP : ∃ m, msgP sb = .ok (m, [])
      · obtain ⟨mm, hm⟩ := hP
        obtain ⟨e1, e2, e3⟩ := msg_ok HB.out hm
        rw [List.append_nil] at e1
        have HE := Lib.hid e1.symm
        have HR2 := Lib.hid e2
        have HO2 := Lib.hid e3
        have HX := Lib.hid (msread_yes As n cs w7 sb HL.out HLC.out HB.out (Hw7).out.2 mm hm)
        clear hm e1 e2 e3
        go_wp2_with fail
        refine HX.out.mono ?_
        rintro e y1 ⟨rfl, hb⟩
        have H1 := Lib.hid (show Below W.heap.size W y1 ∧ ByR y1 As sb from ⟨(Hw7).out.1.trans (hb.mono (Hw7).out.1.size), (Hw7).out.2.next hb⟩)
        clear hb HX
        go_wp2_with (first | (refine wpList_store_blk rfl 50 _ _ rfl (y1).heap.size 50 zmsA mm.cells.toArray rfl rfl (Blk.new' rfl) (msinfoA _) (zms_siz _) (ms_one _) ?_; intro hy; have hbn : Below (y1).heap.size y1 (((y1).alloc (.cells zmsA 50)).setRow (y1).heap.size mm.cells.toArray) := below_setRow ((Below.refl _ _).alloc (Nat.le_refl _) _) (Nat.le_refl _) _; obtain ⟨y2, hnw⟩ : ∃ y2, y2 = (((y1).alloc (.cells zmsA 50)).setRow (y1).heap.size mm.cells.toArray) := ⟨_, rfl⟩; rw [← hnw] at hbn hy ⊢; clear hnw; have rm := hy.range) | (refine wpList_load_midg (by rfl) 50 _ rfl _ _ rfl (Ms.cells ?_) _ ?_ Try.underlying50 rfl (msinfo _) ?_; rotate_left; (focus assumption)))
        have H2 := Lib.hid (show Below W.heap.size W y2 ∧ ByR y2 As sb from ⟨H1.out.1.trans (hbn.mono H1.out.1.size), H1.out.2.next hbn⟩)
        clear hbn H1 hy rm
        refine (ms_write_yes mm y2 HR2.out HO2.out).mono ?_
        rintro e y3 ⟨v3, rfl, hown, hb⟩
        have hv3 := BytesAt.of hown
        rw [HE.out] at hv3
        have HV3 := Lib.hid hv3
        have H3 := Lib.hid (show Below W.heap.size W y3 ∧ ByR y3 As sb from ⟨H2.out.1.trans (hb.mono H2.out.1.size), H2.out.2.next hb⟩)
        clear hown hb H2 hv3 HE
        go_wp2_with fail
        refine (alive23_any y3).mono ?_
        rintro e y4 ⟨rfl, hb⟩
        have cv1 := (HV3.out.next hb).conv HB.out
        have H4 := Lib.hid (H3.out.1.trans (hb.mono H3.out.1.size))
        have cv2 := conv_src y4 As n cs sb (HL.out ▸ (H3.out.2.next hb).src HSN.out) HL.out HB.out
        clear hb H3 HV3
        go_wp2_with fail
        go_ret
        exact ⟨by first | rfl | simp, H4.out⟩
      · have HX := Lib.hid (msread_no' As n cs w7 sb HL.out HLC.out HB.out (Hw7).out.2 (fun m hm => hP ⟨m, hm⟩))
        clear hP
        go_wp2_with fail
        refine HX.out.mono ?_
        rintro e y1 ⟨rfl, hb⟩
        have H1 := Lib.hid ((Hw7).out.1.trans (hb.mono (Hw7).out.1.size))
        clear hb HX
        go_wp2_with (first | (refine wpList_store_blk rfl 50 _ _ rfl (y1).heap.size 50 zmsA (zM 0).cells.toArray rfl rfl (Blk.new' rfl) (msinfoA _) (zms_siz _) (ms_one _) ?_; intro hy; have hbn : Below (y1).heap.size y1 (((y1).alloc (.cells zmsA 50)).setRow (y1).heap.size (zM 0).cells.toArray) := below_setRow ((Below.refl _ _).alloc (Nat.le_refl _) _) (Nat.le_refl _) _; obtain ⟨y2, hnw⟩ : ∃ y2, y2 = (((y1).alloc (.cells zmsA 50)).setRow (y1).heap.size (zM 0).cells.toArray) := ⟨_, rfl⟩; rw [← hnw] at hbn hy ⊢; clear hnw; have rm := hy.range) | (refine wpList_load_midg (by rfl) 50 _ rfl _ _ rfl (Ms.cells ?_) _ ?_ Try.underlying50 rfl (msinfo _) ?_; rotate_left; (focus assumption)))
        have H2 := Lib.hid (H1.out.trans (hbn.mono H1.out.size))
        clear hbn H1 hy rm
        refine (ms_write_no (zM 0) y2 zM0_right).mono ?_
        rintro e y3 ⟨rfl, hb⟩
        have H3 := Lib.hid (H2.out.trans (hb.mono H2.out.size))
        clear hb H2
        go_wp2_with fail
        refine (alive23_any y3).mono ?_
        rintro e y4 ⟨rfl, hb⟩
        have H4 := Lib.hid (H3.out.trans (hb.mono H3.out.size))
        clear hb H3
        go_wp2_with fail
        go_ret
        exact ⟨rfl, H4.out⟩
end Mg
open Mg

set_option maxRecDepth 100000 in
theorem msgback_lifted (os : Os) (started : os.Started) (H : Type) (enc : TypeId × Value → H) :
    ReturnsInHanded {} Try.checked os 4 .any (Rows.msgBackSpec.pre6 enc Try.prog Try.f4 Rows.msgBackRow.domain false) (Rows.msgBackSpec.post enc Try.prog Try.f4 false true false false) := by
  refine law_lift (C := Try.checked) own_knob started (by kernel_rfl) Try.func4 rfl Try.underlying4 laid_out (by kernel_rfl) rfl ?_
    (ChangeSpec.witness6 (enc := enc) (C := Try.checked) false ⟨#[], #[.agg #[.int .i64 0, .int .i64 0, .int .i64 0, .int .i64 0, .int .i64 0, .int .u64 0, .int .i64 0, .int .u32 0, .int .i64 0, .int .i64 0, .int .u32 0, .int .u32 0, .int .u32 0, .int .u32 0, .int .u32 0, .int .u32 0, .int .u32 0, .int .u32 0, .int .u32 0, .int .u32 0, .int .u32 0, .int .u32 0, .int .u64 0, .int .i64 0, .int .u32 0, .int .i64 0, .int .i64 0, .int .u32 0, .int .u32 0, .int .u32 0, .int .u32 0, .int .u32 0, .int .u32 0, .int .u32 0, .int .u32 0, .int .u32 0, .int .u32 0, .int .u32 0, .int .u32 0, .int .i64 0, .int .i64 0, .int .i64 0, .int .u64 0, .bool false, .int .u64 0, .int .u32 0, .int .u32 0, .int .u32 0, .int .u32 0, .int .u32 0, .int .u32 0, .int .u32 0, .int .u32 0, .int .u32 0, .int .u32 0, .int .u32 0, .int .u32 0], .slice none 0 0, .int .i64 0], []⟩ 8 (by kernel_rfl) (by kernel_rfl) (by kernel_rfl) (by kernel_rfl)) ?_
  · intro ds hds
    match ds, hds with
    | [_, _, _], _ => rfl
  intro W base args ds ps hval hA hlt hsz
  rw [Try.params4] at hA hval
  obtain ⟨v0, vs0, d0, ds0, p0, q0, hargs, rfl, rfl, h0, r0⟩ := trodAll_cons hA
  obtain ⟨v1, vs1, d1, ds1, p1, q1, rfl, rfl, rfl, h1, r1⟩ := trodAll_cons r0
  obtain ⟨v2, vs2, d2, ds2, p2, q2, rfl, rfl, rfl, h2, r2⟩ := trodAll_cons r1
  obtain ⟨rfl, rfl, rfl⟩ := trodAll_nil r2
  obtain rfl : args = #[v0, v1, v2] := by cases args; simp_all
  obtain ⟨p, rfl, hp⟩ := open_pm (hval 0 60 v0 rfl rfl) h0
  obtain ⟨As, n, cs, sb, rfl, hn, hnc, _, hb256, hby, hnone⟩ := open_bytes (hval 1 61 v1 rfl rfl) h1 (fun x hx => hlt x (by simp [hx]))
  obtain ⟨a2, rfl, rfl, rfl, w2⟩ := open_int Try.underlying3 (hval 2 3 v2 rfl rfl) h2
  exact back_walk p hp As n cs sb a2 W hn hnc hb256 hby hnone

theorem msgback_holds : Rows.MsgBackSaid :=
  OpenClaim.holds_of_wide 4 Try.f4 rfl rfl rfl rfl rfl rfl rfl ⟨rfl, rfl, rfl, rfl, rfl⟩ rfl rfl rfl rfl rfl (by kernel_rfl) Try.func4 (by kernel_rfl)
    (of_decide_eq_true (by kernel_rfl)) (by unfold Func.isWrapper; first | (rw [if_pos (by decide +kernel)]; kernel_rfl) | (rw [if_neg (by decide +kernel)]; exact ⟨rfl, rfl⟩))
    (fun os started H enc _ => msgback_lifted os started H enc)


end Go.Proofs.Ytkigaclcmodjaaa

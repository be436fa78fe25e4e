/-
peers: the statements' fixed calls.
-/
import Derived.Test.YtlceljcplmcjgaaPe10
import Derived.Test.YtlceljcplmcjgaaPe11
namespace Go.Proofs.Ytlceljcplmcjgaa
open Go.RowKit
set_option linter.unusedSimpArgs false
set_option linter.unusedVariables false
namespace Pe
section
variable (W : World) {B d : Nat} {x y : PS} (h : PP W B d x) (hx : x.n ≠ 0)
include h hx
theorem found_is {n c : Int} (hf : x.foundF n = (c, y)) : Calls Try.prog 21 #[.pointer (some ⟨d, 0, none⟩), .int .i64 n] W fun e W' => e = .returned (.int .i64 c) ∧ PP W' B d y ∧ Tn B d W W' := by
  have := found_any W h hx n
  rw [hf] at this
  exact this
theorem join_is {n m c : Int} (hf : x.joinF n m = (c, y)) : Calls Try.prog 22 #[.pointer (some ⟨d, 0, none⟩), .int .i64 n, .int .i64 m] W fun e W' => e = .returned (.int .i64 c) ∧ PP W' B d y ∧ Tn B d W W' := by
  have := join_any W h hx n m
  rw [hf] at this
  exact this
theorem asked_is {n m : Int} {b : Bool} (hf : x.askedF n m = (b, y)) : Calls Try.prog 25 #[.pointer (some ⟨d, 0, none⟩), .int .i64 n, .int .i64 m] W fun e W' => e = .returned (.bool b) ∧ PP W' B d y ∧ Tn B d W W' := by
  have := asked_any W h hx n m
  rw [hf] at this
  exact this
theorem leaving_is {n m : Int} {b : Bool} (hf : x.leavingF n m = (b, y)) : Calls Try.prog 26 #[.pointer (some ⟨d, 0, none⟩), .int .i64 n, .int .i64 m] W fun e W' => e = .returned (.bool b) ∧ PP W' B d y ∧ Tn B d W W' := by
  have := leaving_any W h hx n m
  rw [hf] at this
  exact this
theorem joined_is {n m c : Int} {b : Bool} (hf : x.toldF n m 1 (if b then 2 else 0) = (c, y)) : Calls Try.prog 23 #[.pointer (some ⟨d, 0, none⟩), .int .i64 n, .int .i64 m, .bool b] W fun e W' => e = .returned (.int .i64 c) ∧ PP W' B d y ∧ Tn B d W W' := by
  have := joined_any W h hx n m b
  rw [hf] at this
  exact this
theorem left_is {n m c : Int} {b : Bool} (hf : x.toldF n m 3 (if b then 0 else 2) = (c, y)) : Calls Try.prog 24 #[.pointer (some ⟨d, 0, none⟩), .int .i64 n, .int .i64 m, .bool b] W fun e W' => e = .returned (.int .i64 c) ∧ PP W' B d y ∧ Tn B d W W' := by
  have := left_any W h hx n m b
  rw [hf] at this
  exact this
theorem leave_is {n a c : Int} (hf : x.leaveF n = ((a, c), y)) : Calls Try.prog 18 #[.pointer (some ⟨d, 0, none⟩), .int .i64 n] W fun e W' => e = .returned (.tuple #[.int .i64 a, .int .i64 c]) ∧ PP W' B d y ∧ Tn B d W W' := by
  have := leave_any W h hx n
  rw [hf] at this
  exact this
end
theorem PS.new_ok {n : Int} (h1 : 1 ≤ n) (h2 : n ≤ 12) : (PS.new n).Ok where
  n1 := h1
  n2 := h2
  st := fun k hk => by show (0 : Int) ≤ 0 ∧ (0 : Int) ≤ 3; omega
  may := fun k hk => by show mayB 0 (lst fun _ => false).length = true; rw [lst_false]; rfl
  own := fun k j hk hj h => by cases h
def a0 : PS := PS.new 1
def a1 : PS := (a0.foundF 3).2
def a2 : PS := (a1.leaveF 3).2
def a3 : PS := (a2.askedF 3 2).2
def a4 : PS := (a3.askedF 3 2).2
def a5 : PS := (a4.leaveF 3).2
def a6 : PS := (a5.toldF 3 2 3 0).2
def a7 : PS := (a6.joinF 4 2).2
def a8 : PS := (a7.toldF 4 2 1 2).2
def a9 : PS := (a8.leavingF 4 2).2
theorem f1 : a0.foundF 3 = (0, a1) := Prod.ext (by decide +kernel : (a0.foundF 3).1 = 0) rfl
theorem f2 : a1.leaveF 3 = ((0, 7), a2) := Prod.ext (by decide +kernel : (a1.leaveF 3).1 = (0, 7)) rfl
theorem f3 : a2.askedF 3 2 = (true, a3) := Prod.ext (by decide +kernel : (a2.askedF 3 2).1 = true) rfl
theorem f4 : a3.askedF 3 2 = (false, a4) := Prod.ext (by decide +kernel : (a3.askedF 3 2).1 = false) rfl
theorem f5 : a4.leaveF 3 = ((2, 0), a5) := Prod.ext (by decide +kernel : (a4.leaveF 3).1 = (2, 0)) rfl
theorem f6 : a5.toldF 3 2 3 (if true then 0 else 2) = (0, a6) := Prod.ext (by decide +kernel : (a5.toldF 3 2 3 0).1 = 0) rfl
theorem f7 : a6.joinF 4 2 = (0, a7) := Prod.ext (by decide +kernel : (a6.joinF 4 2).1 = 0) rfl
theorem f8 : a7.toldF 4 2 1 (if true then 2 else 0) = (0, a8) := Prod.ext (by decide +kernel : (a7.toldF 4 2 1 2).1 = 0) rfl
theorem f9 : a8.leavingF 4 2 = (true, a9) := Prod.ext (by decide +kernel : (a8.leavingF 4 2).1 = true) rfl
theorem ok0 : a0.Ok := PS.new_ok (by decide) (by decide)
theorem ok1 : a1.Ok := found_ok ok0 3
theorem ok2 : a2.Ok := leave_ok ok1 3
theorem ok3 : a3.Ok := asked_ok ok2 3 2
theorem ok4 : a4.Ok := asked_ok ok3 3 2
theorem ok5 : a5.Ok := leave_ok ok4 3
theorem ok6 : a6.Ok := told_ok ok5 3 2 3 0 (.inl rfl)
theorem ok7 : a7.Ok := join_ok ok6 4 2
theorem ok8 : a8.Ok := told_ok ok7 4 2 1 2 (.inr rfl)
theorem s8_3 : a8.stV 3 = 0 := by decide +kernel
theorem s8_4 : a8.stV 4 = 2 := by decide +kernel
theorem o8_4 : a8.ofL 4 = [2] := by decide +kernel
theorem l8 : a8.sellersL = [4] := by decide +kernel
attribute [irreducible] a0 a1 a2 a3 a4 a5 a6 a7 a8 a9
set_option maxRecDepth 20000 in
set_option maxHeartbeats 16000000 in
theorem alive_any (W : World) : Calls Try.prog 8 #[] W fun e W' => e = .returned (.bool true) ∧ Below W.heap.size W W' := by
  have HN := Lib.hid (new_yes W 1 (num_in.2 (by decide)))
  rw [show PS.new 1 = a0 by unfold a0; rfl] at HN
  go_enter Try.func8, Try.ntmps8
  go_upto_region 2 with (go_at_call 7; refine HN.out.mono ?_; rintro e w1 ⟨rfl, hp, hb, -⟩; have HP0 := Lib.hid hp; have HB1 := Lib.hid hb; clear hp hb HN)
  obtain ⟨d, hd⟩ : ∃ d, d = W.heap.size := ⟨_, rfl⟩
  obtain ⟨B, hB⟩ : ∃ B, B = W.heap.size := ⟨_, rfl⟩
  have HT0 := Lib.hid (show Tn B d W w1 by rw [hB]; exact .ofBelow (Nat.le_refl _) HB1.out)
  have HP0' := Lib.hid (show PP w1 B d a0 by rw [hd, hB]; exact HP0.out)
  have HBB := Lib.hid hB
  rw [← hd]
  clear hd HP0 HB1 hB
  go_upto_region 3 with (go_at_call 7; refine (new_not w1 0 (numB_no (by decide))).mono ?_; rintro e w2 ⟨rfl, rfl⟩)
  go_upto_region 4 with (go_at_call 21; refine (found_is w1 HP0'.out ok0.n0 f1).mono ?_; rintro e w2 ⟨rfl, hp, ht⟩; have HP1 := Lib.hid hp; have HT1 := Lib.hid (HT0.out.trans ht); clear hp ht HP0' HT0)
  go_upto_region 5 with (go_at_call 18; refine (leave_is w2 HP1.out ok1.n0 f2).mono ?_; rintro e w3 ⟨rfl, hp, ht⟩; have HP2 := Lib.hid hp; have HT2 := Lib.hid (HT1.out.trans ht); clear hp ht HP1 HT1)
  go_upto_region 6 with (go_at_call 25; refine (asked_is w3 HP2.out ok2.n0 f3).mono ?_; rintro e w4 ⟨rfl, hp, ht⟩; have HP3 := Lib.hid hp; have HT3 := Lib.hid (HT2.out.trans ht); clear hp ht HP2 HT2)
  go_upto_region 7 with (go_at_call 25; refine (asked_is w4 HP3.out ok3.n0 f4).mono ?_; rintro e w5 ⟨rfl, hp, ht⟩; have HP4 := Lib.hid hp; have HT4 := Lib.hid (HT3.out.trans ht); clear hp ht HP3 HT3)
  go_upto_region 8 with (go_at_call 18; refine (leave_is w5 HP4.out ok4.n0 f5).mono ?_; rintro e w6 ⟨rfl, hp, ht⟩; have HP5 := Lib.hid hp; have HT5 := Lib.hid (HT4.out.trans ht); clear hp ht HP4 HT4)
  go_upto_region 9 with (go_at_call 24; refine (left_is w6 HP5.out ok5.n0 f6).mono ?_; rintro e w7 ⟨rfl, hp, ht⟩; have HP6 := Lib.hid hp; have HT6 := Lib.hid (HT5.out.trans ht); clear hp ht HP5 HT5)
  go_upto_region 10 with (go_at_call 22; refine (join_is w7 HP6.out ok6.n0 f7).mono ?_; rintro e w8 ⟨rfl, hp, ht⟩; have HP7 := Lib.hid hp; have HT7 := Lib.hid (HT6.out.trans ht); clear hp ht HP6 HT6)
  go_upto_region 11 with (go_at_call 23; refine (joined_is w8 HP7.out ok7.n0 f8).mono ?_; rintro e w9 ⟨rfl, hp, ht⟩; have HP8 := Lib.hid hp; have HT8 := Lib.hid (HT7.out.trans ht); clear hp ht HP7 HT7)
  have HSV := Lib.hid (save_any w9 HP8.out ok8)
  have HBK := Lib.hid (fun A n cp w => load_back A n cp w a8 ok8)
  obtain ⟨bs, hbs⟩ : ∃ bs, bs = encPS a8 := ⟨_, rfl⟩
  rw [← hbs] at HSV HBK
  have H256 := Lib.hid (show ∀ x ∈ bs, x < 256 by rw [hbs]; exact encPS_256 _)
  have HCV := Lib.hid (fun w => Sx.str_bytes w bs bs.length rfl)
  clear hbs
  go_upto_region 12 with (first | (go_at_call 15; refine HSV.out.mono ?_; rintro e w10 ⟨rfl, hb⟩; have HB10 := Lib.hid hb; have hcv := HCV.out w10; have HLD := Lib.hid (HBK.out (some ⟨w10.heap.size, 0, none⟩) bs.length (Sx.capS bs w10) (w10.drew.alloc (Sx.objS bs w10)) rfl (by unfold Sx.capS; rw [Byt.bstr_size]; exact grownCap_ge _ _ _ _) (Sx.objS_byr w10 bs H256.out)); clear hb HSV) | (go_at_call 27; refine HLD.out.mono ?_; rintro e w11 ⟨q, rfl, hp, hb⟩; have HQ := Lib.hid hp; have HB11 := Lib.hid hb; clear hp hb HLD hcv))
  have hb911 : Below w9.heap.size w9 w11 := by
    have h2 := HB10.out.trans (((Below.refl w10.heap.size w10).drew.alloc (Nat.le_refl _) (Sx.objS bs w10)).mono HB10.out.size)
    exact h2.trans (HB11.out.mono h2.size)
  have HP11 := Lib.hid (HP8.out.next hb911)
  have HT11 := Lib.hid (HT8.out.trans (Tn.next HP8.out hb911))
  have HOF := Lib.hid (of_any w11 HQ.out 4)
  rw [o8_4] at HOF
  clear hb911 HP8 HT8 HB10 HB11 HCV H256 HBK
  go_upto_region 13 with (go_at_call 11; refine HOF.out.mono ?_; rintro e w12 ⟨v, rfl, hN, hb⟩; have HNd := Lib.hid hN; have HB12 := Lib.hid hb; clear hN hb HOF)
  have HP12 := Lib.hid (HP11.out.next HB12.out)
  have HT12 := Lib.hid (HT11.out.trans (Tn.next HP11.out HB12.out))
  have HQ12 := Lib.hid (HQ.out.next HB12.out)
  obtain ⟨g, o, c, ev, hg, hcc⟩ := HNd.out.at_ (i := 0) (n := 2) rfl
  subst ev
  have HST := Lib.hid (state_any w12 HP12.out 3)
  rw [s8_3] at HST
  clear HP11 HT11 HQ HB12 HNd hg
  have HCC := Lib.hid hcc
  clear hcc
  go_wp2_with (first | (go_at_call 13; first | (refine HST.out.mono ?_; rintro e w13 ⟨rfl, hb⟩; have HP13 := Lib.hid (HP12.out.next hb); have HT13 := Lib.hid (HT12.out.trans (Tn.next HP12.out hb)); have hcc := (show w13.cell? ⟨g, o, none⟩ = some (.int .i64 (2 : Nat)) from cell_next hb HCC.out); have HS4 := Lib.hid (state_any w13 (HQ12.out.next hb) 4); rw [s8_4] at HS4; clear hb HST) | (refine HS4.out.mono ?_; rintro e w14 ⟨rfl, hb⟩; have HP14 := Lib.hid (HP13.out.next hb); have HT14 := Lib.hid (HT13.out.trans (Tn.next HP13.out hb)); have HSL := Lib.hid (sellers_any w14 HP14.out); rw [l8] at HSL; clear hb HS4)) | (go_at_call 19; refine HSL.out.mono ?_; rintro e w15 ⟨v, rfl, hN, hb⟩; obtain ⟨A2, c2, rfl⟩ := hN.shape; have HP15 := Lib.hid (HP14.out.next hb); have HT15 := Lib.hid (HT14.out.trans (Tn.next HP14.out hb)); clear hN hb HSL) | (go_at_call 26; refine (leaving_is w15 HP15.out ok8.n0 f9).mono ?_; rintro e w16 ⟨rfl, hp, ht⟩; have HT16 := Lib.hid (HT15.out.trans ht); clear hp ht))
  go_ret
  exact ⟨rfl, by have h := HT16.out.1; rw [HBB.out] at h; exact h⟩
end Pe
end Go.Proofs.Ytlceljcplmcjgaa

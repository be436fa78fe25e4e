/-
peers: PeersStay, walked (of tools/mkstay.py).
-/
import Derived.Test.YtlceljcplmcjgaaPe12
namespace Go.Proofs.Ytlceljcplmcjgaa
open Go.RowKit
set_option linter.unusedSimpArgs false
set_option linter.unusedVariables false
namespace Pe
namespace Stay
def s (k : Nat) : Int := (k : Int) + 1
def A0 : PS := PS.new 1
def B0 : PS := PS.new 2
def A1 (k : Nat) : PS := (A0.foundF (s k)).2
def B1 (k : Nat) : PS := (B0.joinF (s k) 1).2
def A2 (k : Nat) : PS := ((A1 k).askedF (s k) 2).2
def B2 (k : Nat) : PS := ((B1 k).toldF (s k) 1 1 2).2
def A3 (k : Nat) : PS := ((A2 k).leaveF (s k)).2
def B3 (k : Nat) : PS := ((B2 k).leaveF (s k)).2
def B4tt (k : Nat) : PS := ((B3 k).leavingF (s k) 1).2
def A4tt (k : Nat) : PS := ((A3 k).leavingF (s k) 2).2
def A5tt (k : Nat) : PS := ((A4tt k).toldF (s k) 2 3 2).2
def B5tt (k : Nat) : PS := ((B4tt k).toldF (s k) 1 3 2).2
def B4tf (k : Nat) : PS := ((B2 k).leavingF (s k) 1).2
def A5tf (k : Nat) : PS := ((A3 k).toldF (s k) 2 3 0).2
def A4ft (k : Nat) : PS := ((A2 k).leavingF (s k) 2).2
def B5ft (k : Nat) : PS := ((B3 k).toldF (s k) 1 3 0).2
theorem fA1 : ∀ k, k < 12 → (A0).foundF (s k) = (0, A1 k) := fun k hk => Prod.ext ((by decide +kernel : ∀ k, k < 12 → ((A0).foundF (s k)).1 = 0) k hk) rfl
theorem fB1 : ∀ k, k < 12 → (B0).joinF (s k) 1 = (0, B1 k) := fun k hk => Prod.ext ((by decide +kernel : ∀ k, k < 12 → ((B0).joinF (s k) 1).1 = 0) k hk) rfl
theorem fA2 : ∀ k, k < 12 → (A1 k).askedF (s k) 2 = (true, A2 k) := fun k hk => Prod.ext ((by decide +kernel : ∀ k, k < 12 → ((A1 k).askedF (s k) 2).1 = true) k hk) rfl
theorem fB2 : ∀ k, k < 12 → (B1 k).toldF (s k) 1 1 (if true then 2 else 0) = (0, B2 k) := fun k hk => Prod.ext ((by decide +kernel : ∀ k, k < 12 → ((B1 k).toldF (s k) 1 1 (if true then 2 else 0)).1 = 0) k hk) rfl
theorem fA3 : ∀ k, k < 12 → (A2 k).leaveF (s k) = ((2, 0), A3 k) := fun k hk => Prod.ext ((by decide +kernel : ∀ k, k < 12 → ((A2 k).leaveF (s k)).1 = (2, 0)) k hk) rfl
theorem fB3 : ∀ k, k < 12 → (B2 k).leaveF (s k) = ((1, 0), B3 k) := fun k hk => Prod.ext ((by decide +kernel : ∀ k, k < 12 → ((B2 k).leaveF (s k)).1 = (1, 0)) k hk) rfl
theorem fB4tt : ∀ k, k < 12 → (B3 k).leavingF (s k) 1 = (false, B4tt k) := fun k hk => Prod.ext ((by decide +kernel : ∀ k, k < 12 → ((B3 k).leavingF (s k) 1).1 = false) k hk) rfl
theorem fA4tt : ∀ k, k < 12 → (A3 k).leavingF (s k) 2 = (false, A4tt k) := fun k hk => Prod.ext ((by decide +kernel : ∀ k, k < 12 → ((A3 k).leavingF (s k) 2).1 = false) k hk) rfl
theorem fA5tt : ∀ k, k < 12 → (A4tt k).toldF (s k) 2 3 (if false then 0 else 2) = (0, A5tt k) := fun k hk => Prod.ext ((by decide +kernel : ∀ k, k < 12 → ((A4tt k).toldF (s k) 2 3 (if false then 0 else 2)).1 = 0) k hk) rfl
theorem fB5tt : ∀ k, k < 12 → (B4tt k).toldF (s k) 1 3 (if false then 0 else 2) = (0, B5tt k) := fun k hk => Prod.ext ((by decide +kernel : ∀ k, k < 12 → ((B4tt k).toldF (s k) 1 3 (if false then 0 else 2)).1 = 0) k hk) rfl
theorem fB4tf : ∀ k, k < 12 → (B2 k).leavingF (s k) 1 = (true, B4tf k) := fun k hk => Prod.ext ((by decide +kernel : ∀ k, k < 12 → ((B2 k).leavingF (s k) 1).1 = true) k hk) rfl
theorem fA5tf : ∀ k, k < 12 → (A3 k).toldF (s k) 2 3 (if true then 0 else 2) = (0, A5tf k) := fun k hk => Prod.ext ((by decide +kernel : ∀ k, k < 12 → ((A3 k).toldF (s k) 2 3 (if true then 0 else 2)).1 = 0) k hk) rfl
theorem fA4ft : ∀ k, k < 12 → (A2 k).leavingF (s k) 2 = (true, A4ft k) := fun k hk => Prod.ext ((by decide +kernel : ∀ k, k < 12 → ((A2 k).leavingF (s k) 2).1 = true) k hk) rfl
theorem fB5ft : ∀ k, k < 12 → (B3 k).toldF (s k) 1 3 (if true then 0 else 2) = (0, B5ft k) := fun k hk => Prod.ext ((by decide +kernel : ∀ k, k < 12 → ((B3 k).toldF (s k) 1 3 (if true then 0 else 2)).1 = 0) k hk) rfl
theorem okA0 : A0.Ok := PS.new_ok (by decide) (by decide)
theorem okB0 : B0.Ok := PS.new_ok (by decide) (by decide)
theorem okA1 (k : Nat) : (A1 k).Ok := found_ok okA0 _
theorem okB1 (k : Nat) : (B1 k).Ok := join_ok okB0 _ _
theorem okA2 (k : Nat) : (A2 k).Ok := asked_ok (okA1 k) _ _
theorem okB2 (k : Nat) : (B2 k).Ok := told_ok (okB1 k) (s k) 1 1 2 (.inr rfl)
theorem okA3 (k : Nat) : (A3 k).Ok := leave_ok (okA2 k) _
theorem okB3 (k : Nat) : (B3 k).Ok := leave_ok (okB2 k) _
theorem okB4tt (k : Nat) : (B4tt k).Ok := leaving_ok (okB3 k) _ _
theorem okA4tt (k : Nat) : (A4tt k).Ok := leaving_ok (okA3 k) _ _
theorem okA5tt (k : Nat) : (A5tt k).Ok := told_ok (okA4tt k) (s k) 2 3 2 (.inr rfl)
theorem okB5tt (k : Nat) : (B5tt k).Ok := told_ok (okB4tt k) (s k) 1 3 2 (.inr rfl)
theorem okB4tf (k : Nat) : (B4tf k).Ok := leaving_ok (okB2 k) _ _
theorem okA5tf (k : Nat) : (A5tf k).Ok := told_ok (okA3 k) (s k) 2 3 0 (.inl rfl)
theorem okA4ft (k : Nat) : (A4ft k).Ok := leaving_ok (okA2 k) _ _
theorem okB5ft (k : Nat) : (B5ft k).Ok := told_ok (okB3 k) (s k) 1 3 0 (.inl rfl)
theorem satt : ∀ k, k < 12 → (A5tt k).stV (s k) = 2 := by decide +kernel
theorem sbtt : ∀ k, k < 12 → (B5tt k).stV (s k) = 2 := by decide +kernel
theorem satf : ∀ k, k < 12 → (A5tf k).stV (s k) = 0 := by decide +kernel
theorem sbtf : ∀ k, k < 12 → (B4tf k).stV (s k) = 2 := by decide +kernel
theorem saft : ∀ k, k < 12 → (A4ft k).stV (s k) = 2 := by decide +kernel
theorem sbft : ∀ k, k < 12 → (B5ft k).stV (s k) = 0 := by decide +kernel
theorem saff : ∀ k, k < 12 → (A2 k).stV (s k) = 2 := by decide +kernel
theorem sbff : ∀ k, k < 12 → (B2 k).stV (s k) = 2 := by decide +kernel
attribute [irreducible] A0 B0 A1 B1 A2 B2 A3 B3 B4tt A4tt A5tt B5tt B4tf A5tf A4ft B5ft
section
variable (W : World)
set_option maxRecDepth 20000 in
set_option maxHeartbeats 8000000 in
theorem walk_tt {k : Nat} (hk : k < 12) : Calls Try.prog 5 #[.bool true, .bool true, .int .i64 (s k)] W fun e W' => e = .returned (.bool true) ∧ Below W.heap.size W W' := by
  have HNA := Lib.hid (new_yes W 1 (num_in.2 (by decide)))
  rw [show PS.new 1 = A0 by unfold A0; rfl] at HNA
  have HK := Lib.hid hk
  obtain ⟨n, hn⟩ : ∃ n, n = s k := ⟨_, rfl⟩
  have i1 : ¬ n < 1 := by rw [hn]; unfold s; omega
  have i2 : ¬ 12 < n := by rw [hn]; unfold s; omega
  have HS := Lib.hid hn
  rw [← hn]
  clear hk hn
  go_enter Try.func5, Try.ntmps5
  go_upto_region 2 with (go_at_call 7; refine HNA.out.mono ?_; rintro e w1 ⟨rfl, hp, hb, -⟩; have HPa0 := Lib.hid hp; have HB1 := Lib.hid hb; have HNB := Lib.hid (new_yes w1 2 (num_in.2 (by decide))); rw [show PS.new 2 = B0 by unfold B0; rfl] at HNB; clear hp hb HNA)
  go_upto_region 3 with (go_at_call 7; refine HNB.out.mono ?_; rintro e w2 ⟨rfl, hp, hb, -⟩; have HPb0 := Lib.hid hp; have HB2 := Lib.hid hb; clear hp hb HNB)
  obtain ⟨B, hB⟩ : ∃ B, B = W.heap.size := ⟨_, rfl⟩
  obtain ⟨da, hda⟩ : ∃ d, d = W.heap.size := ⟨_, rfl⟩
  obtain ⟨db, hdb⟩ : ∃ d, d = w1.heap.size := ⟨_, rfl⟩
  have HW2 := Lib.hid (show Below B W w2 by rw [hB]; exact HB1.out.trans (HB2.out.mono HB1.out.size))
  have HPa := Lib.hid (show PP w2 B da A0 by rw [hB, hda]; exact HPa0.out.next HB2.out)
  have HPb := Lib.hid (show PP w2 B db B0 from ⟨by rw [hdb]; exact HPb0.out.1, by rw [hB, hdb]; exact HB1.out.size⟩)
  have HDD := Lib.hid (show da ≠ db by have := HPa0.out.lt; omega)
  have HBB := Lib.hid hB
  rw [← hda, ← hdb]
  clear HPa0 HPb0 HB1 HB2 hB hda hdb
  have HF := Lib.hid (found_is w2 HPa.out okA0.n0 (fA1 k HK.out))
  rw [← HS.out] at HF
  go_upto_region 5 with fail
  clear i1 i2
  go_upto_region 7 with (first | (go_at_call 21; refine HF.out.mono ?_; rintro e w3 ⟨rfl, hp, ht⟩; have HPa1 := Lib.hid hp; have HPb1 := Lib.hid (ht.pp HPb.out HDD.out.symm); have HW3 := Lib.hid (HW2.out.trans ht.1); have HJ := Lib.hid (join_is w3 HPb1.out okB0.n0 (fB1 k HK.out)); rw [← HS.out] at HJ; clear hp ht HF HPa HPb HW2) | (go_at_call 22; refine HJ.out.mono ?_; rintro e w4 ⟨rfl, hp, ht⟩; have HPb2 := Lib.hid hp; have HPa2 := Lib.hid (ht.pp HPa1.out HDD.out); have HW4 := Lib.hid (HW3.out.trans ht.1); have HA := Lib.hid (asked_is w4 HPa2.out (okA1 k).n0 (fA2 k HK.out)); rw [← HS.out] at HA; clear hp ht HJ HPa1 HPb1 HW3) | (go_at_call 25; refine HA.out.mono ?_; rintro e w5 ⟨rfl, hp, ht⟩; have HPa3 := Lib.hid hp; have HPb3 := Lib.hid (ht.pp HPb2.out HDD.out.symm); have HW5 := Lib.hid (HW4.out.trans ht.1); have HJD := Lib.hid (joined_is w5 HPb3.out (okB1 k).n0 (fB2 k HK.out)); rw [← HS.out] at HJD; clear hp ht HA HPa2 HPb2 HW4) | (go_at_call 23; refine HJD.out.mono ?_; rintro e w6 ⟨rfl, hp, ht⟩; have HPb4 := Lib.hid hp; have HPa4 := Lib.hid (ht.pp HPa3.out HDD.out); have HW6 := Lib.hid (HW5.out.trans ht.1); clear hp ht HJD HPa3 HPb3 HW5))
  have HC0 := Lib.hid (leave_is w6 HPa4.out (okA2 k).n0 (fA3 k HK.out))
  rw [← HS.out] at HC0
  go_wp2_with (first | (go_at_call 18; first | (refine HC0.out.mono ?_; rintro e w7 ⟨rfl, hp, ht⟩; have HPa7 := Lib.hid hp; have HPb7 := Lib.hid (ht.pp HPb4.out HDD.out.symm); have HW7 := Lib.hid (HW6.out.trans ht.1); have HC1 := Lib.hid (leave_is w7 HPb7.out (okB2 k).n0 (fB3 k HK.out)); rw [← HS.out] at HC1; clear hp ht HC0 HPa4 HPb4 HW6) | (refine HC1.out.mono ?_; rintro e w8 ⟨rfl, hp, ht⟩; have HPb8 := Lib.hid hp; have HPa8 := Lib.hid (ht.pp HPa7.out HDD.out); have HW8 := Lib.hid (HW7.out.trans ht.1); have HC2 := Lib.hid (leaving_is w8 HPb8.out (okB3 k).n0 (fB4tt k HK.out)); rw [← HS.out] at HC2; clear hp ht HC1 HPa7 HPb7 HW7)) | (go_at_call 26; first | (refine HC2.out.mono ?_; rintro e w9 ⟨rfl, hp, ht⟩; have HPb9 := Lib.hid hp; have HPa9 := Lib.hid (ht.pp HPa8.out HDD.out); have HW9 := Lib.hid (HW8.out.trans ht.1); have HC3 := Lib.hid (leaving_is w9 HPa9.out (okA3 k).n0 (fA4tt k HK.out)); rw [← HS.out] at HC3; clear hp ht HC2 HPa8 HPb8 HW8) | (refine HC3.out.mono ?_; rintro e w10 ⟨rfl, hp, ht⟩; have HPa10 := Lib.hid hp; have HPb10 := Lib.hid (ht.pp HPb9.out HDD.out.symm); have HW10 := Lib.hid (HW9.out.trans ht.1); have HC4 := Lib.hid (left_is w10 HPa10.out (okA4tt k).n0 (fA5tt k HK.out)); rw [← HS.out] at HC4; clear hp ht HC3 HPa9 HPb9 HW9)) | (go_at_call 24; first | (refine HC4.out.mono ?_; rintro e w11 ⟨rfl, hp, ht⟩; have HPa11 := Lib.hid hp; have HPb11 := Lib.hid (ht.pp HPb10.out HDD.out.symm); have HW11 := Lib.hid (HW10.out.trans ht.1); have HC5 := Lib.hid (left_is w11 HPb11.out (okB4tt k).n0 (fB5tt k HK.out)); rw [← HS.out] at HC5; clear hp ht HC4 HPa10 HPb10 HW10) | (refine HC5.out.mono ?_; rintro e w12 ⟨rfl, hp, ht⟩; have HPb12 := Lib.hid hp; have HPa12 := Lib.hid (ht.pp HPa11.out HDD.out); have HW12 := Lib.hid (HW11.out.trans ht.1); have HC6 := Lib.hid (state_any w12 HPa12.out (s k)); rw [satt k HK.out] at HC6; rw [← HS.out] at HC6; clear hp ht HC5 HPa11 HPb11 HW11)) | (go_at_call 13; first | (refine HC6.out.mono ?_; rintro e w13 ⟨rfl, hb⟩; have HPa13 := Lib.hid (HPa12.out.next hb); have HPb13 := Lib.hid (HPb12.out.next hb); have HW13 := Lib.hid (HW12.out.trans (hb.mono (Nat.le_trans HPa12.out.2 (Nat.le_of_lt HPa12.out.lt)))); have HC7 := Lib.hid (state_any w13 HPb13.out (s k)); rw [sbtt k HK.out] at HC7; rw [← HS.out] at HC7; clear hb HC6 HPa12 HPb12 HW12) | (refine HC7.out.mono ?_; rintro e w14 ⟨rfl, hb⟩; have HW14 := Lib.hid (HW13.out.trans (hb.mono (Nat.le_trans HPa13.out.2 (Nat.le_of_lt HPa13.out.lt)))); have HSZ := Lib.hid (show B ≤ w14.heap.size from Nat.le_trans HPa13.out.2 (Nat.le_trans (Nat.le_of_lt HPa13.out.lt) hb.size)); clear hb HC7)) | (go_at_call 17; first | (refine (num_any _ true).mono ?_; rintro e wn ⟨rfl, rfl⟩; rw [show numI true = 1 from rfl]) | (refine (num_any _ false).mono ?_; rintro e wn ⟨rfl, rfl⟩; rw [show numI false = 0 from rfl])) | (go_at_call 8; refine (alive_any _).mono ?_; rintro e wz ⟨rfl, hb⟩; have HWZ := Lib.hid (HW14.out.trans (hb.mono HSZ.out)); clear hb))
  go_ret
  exact ⟨rfl, by have h := HWZ.out; rw [HBB.out] at h; exact h⟩
set_option maxRecDepth 20000 in
set_option maxHeartbeats 8000000 in
theorem walk_tf {k : Nat} (hk : k < 12) : Calls Try.prog 5 #[.bool true, .bool false, .int .i64 (s k)] W fun e W' => e = .returned (.bool true) ∧ Below W.heap.size W W' := by
  have HNA := Lib.hid (new_yes W 1 (num_in.2 (by decide)))
  rw [show PS.new 1 = A0 by unfold A0; rfl] at HNA
  have HK := Lib.hid hk
  obtain ⟨n, hn⟩ : ∃ n, n = s k := ⟨_, rfl⟩
  have i1 : ¬ n < 1 := by rw [hn]; unfold s; omega
  have i2 : ¬ 12 < n := by rw [hn]; unfold s; omega
  have HS := Lib.hid hn
  rw [← hn]
  clear hk hn
  go_enter Try.func5, Try.ntmps5
  go_upto_region 2 with (go_at_call 7; refine HNA.out.mono ?_; rintro e w1 ⟨rfl, hp, hb, -⟩; have HPa0 := Lib.hid hp; have HB1 := Lib.hid hb; have HNB := Lib.hid (new_yes w1 2 (num_in.2 (by decide))); rw [show PS.new 2 = B0 by unfold B0; rfl] at HNB; clear hp hb HNA)
  go_upto_region 3 with (go_at_call 7; refine HNB.out.mono ?_; rintro e w2 ⟨rfl, hp, hb, -⟩; have HPb0 := Lib.hid hp; have HB2 := Lib.hid hb; clear hp hb HNB)
  obtain ⟨B, hB⟩ : ∃ B, B = W.heap.size := ⟨_, rfl⟩
  obtain ⟨da, hda⟩ : ∃ d, d = W.heap.size := ⟨_, rfl⟩
  obtain ⟨db, hdb⟩ : ∃ d, d = w1.heap.size := ⟨_, rfl⟩
  have HW2 := Lib.hid (show Below B W w2 by rw [hB]; exact HB1.out.trans (HB2.out.mono HB1.out.size))
  have HPa := Lib.hid (show PP w2 B da A0 by rw [hB, hda]; exact HPa0.out.next HB2.out)
  have HPb := Lib.hid (show PP w2 B db B0 from ⟨by rw [hdb]; exact HPb0.out.1, by rw [hB, hdb]; exact HB1.out.size⟩)
  have HDD := Lib.hid (show da ≠ db by have := HPa0.out.lt; omega)
  have HBB := Lib.hid hB
  rw [← hda, ← hdb]
  clear HPa0 HPb0 HB1 HB2 hB hda hdb
  have HF := Lib.hid (found_is w2 HPa.out okA0.n0 (fA1 k HK.out))
  rw [← HS.out] at HF
  go_upto_region 5 with fail
  clear i1 i2
  go_upto_region 7 with (first | (go_at_call 21; refine HF.out.mono ?_; rintro e w3 ⟨rfl, hp, ht⟩; have HPa1 := Lib.hid hp; have HPb1 := Lib.hid (ht.pp HPb.out HDD.out.symm); have HW3 := Lib.hid (HW2.out.trans ht.1); have HJ := Lib.hid (join_is w3 HPb1.out okB0.n0 (fB1 k HK.out)); rw [← HS.out] at HJ; clear hp ht HF HPa HPb HW2) | (go_at_call 22; refine HJ.out.mono ?_; rintro e w4 ⟨rfl, hp, ht⟩; have HPb2 := Lib.hid hp; have HPa2 := Lib.hid (ht.pp HPa1.out HDD.out); have HW4 := Lib.hid (HW3.out.trans ht.1); have HA := Lib.hid (asked_is w4 HPa2.out (okA1 k).n0 (fA2 k HK.out)); rw [← HS.out] at HA; clear hp ht HJ HPa1 HPb1 HW3) | (go_at_call 25; refine HA.out.mono ?_; rintro e w5 ⟨rfl, hp, ht⟩; have HPa3 := Lib.hid hp; have HPb3 := Lib.hid (ht.pp HPb2.out HDD.out.symm); have HW5 := Lib.hid (HW4.out.trans ht.1); have HJD := Lib.hid (joined_is w5 HPb3.out (okB1 k).n0 (fB2 k HK.out)); rw [← HS.out] at HJD; clear hp ht HA HPa2 HPb2 HW4) | (go_at_call 23; refine HJD.out.mono ?_; rintro e w6 ⟨rfl, hp, ht⟩; have HPb4 := Lib.hid hp; have HPa4 := Lib.hid (ht.pp HPa3.out HDD.out); have HW6 := Lib.hid (HW5.out.trans ht.1); clear hp ht HJD HPa3 HPb3 HW5))
  have HC0 := Lib.hid (leave_is w6 HPa4.out (okA2 k).n0 (fA3 k HK.out))
  rw [← HS.out] at HC0
  go_wp2_with (first | (go_at_call 18; first | (refine HC0.out.mono ?_; rintro e w7 ⟨rfl, hp, ht⟩; have HPa7 := Lib.hid hp; have HPb7 := Lib.hid (ht.pp HPb4.out HDD.out.symm); have HW7 := Lib.hid (HW6.out.trans ht.1); have HC1 := Lib.hid (leaving_is w7 HPb7.out (okB2 k).n0 (fB4tf k HK.out)); rw [← HS.out] at HC1; clear hp ht HC0 HPa4 HPb4 HW6)) | (go_at_call 26; first | (refine HC1.out.mono ?_; rintro e w8 ⟨rfl, hp, ht⟩; have HPb8 := Lib.hid hp; have HPa8 := Lib.hid (ht.pp HPa7.out HDD.out); have HW8 := Lib.hid (HW7.out.trans ht.1); have HC2 := Lib.hid (left_is w8 HPa8.out (okA3 k).n0 (fA5tf k HK.out)); rw [← HS.out] at HC2; clear hp ht HC1 HPa7 HPb7 HW7)) | (go_at_call 24; first | (refine HC2.out.mono ?_; rintro e w9 ⟨rfl, hp, ht⟩; have HPa9 := Lib.hid hp; have HPb9 := Lib.hid (ht.pp HPb8.out HDD.out.symm); have HW9 := Lib.hid (HW8.out.trans ht.1); have HC3 := Lib.hid (state_any w9 HPa9.out (s k)); rw [satf k HK.out] at HC3; rw [← HS.out] at HC3; clear hp ht HC2 HPa8 HPb8 HW8)) | (go_at_call 13; first | (refine HC3.out.mono ?_; rintro e w10 ⟨rfl, hb⟩; have HPa10 := Lib.hid (HPa9.out.next hb); have HPb10 := Lib.hid (HPb9.out.next hb); have HW10 := Lib.hid (HW9.out.trans (hb.mono (Nat.le_trans HPa9.out.2 (Nat.le_of_lt HPa9.out.lt)))); have HC4 := Lib.hid (state_any w10 HPb10.out (s k)); rw [sbtf k HK.out] at HC4; rw [← HS.out] at HC4; clear hb HC3 HPa9 HPb9 HW9) | (refine HC4.out.mono ?_; rintro e w11 ⟨rfl, hb⟩; have HW11 := Lib.hid (HW10.out.trans (hb.mono (Nat.le_trans HPa10.out.2 (Nat.le_of_lt HPa10.out.lt)))); have HSZ := Lib.hid (show B ≤ w11.heap.size from Nat.le_trans HPa10.out.2 (Nat.le_trans (Nat.le_of_lt HPa10.out.lt) hb.size)); clear hb HC4)) | (go_at_call 17; first | (refine (num_any _ true).mono ?_; rintro e wn ⟨rfl, rfl⟩; rw [show numI true = 1 from rfl]) | (refine (num_any _ false).mono ?_; rintro e wn ⟨rfl, rfl⟩; rw [show numI false = 0 from rfl])) | (go_at_call 8; refine (alive_any _).mono ?_; rintro e wz ⟨rfl, hb⟩; have HWZ := Lib.hid (HW11.out.trans (hb.mono HSZ.out)); clear hb))
  go_ret
  exact ⟨rfl, by have h := HWZ.out; rw [HBB.out] at h; exact h⟩
set_option maxRecDepth 20000 in
set_option maxHeartbeats 8000000 in
theorem walk_ft {k : Nat} (hk : k < 12) : Calls Try.prog 5 #[.bool false, .bool true, .int .i64 (s k)] W fun e W' => e = .returned (.bool true) ∧ Below W.heap.size W W' := by
  have HNA := Lib.hid (new_yes W 1 (num_in.2 (by decide)))
  rw [show PS.new 1 = A0 by unfold A0; rfl] at HNA
  have HK := Lib.hid hk
  obtain ⟨n, hn⟩ : ∃ n, n = s k := ⟨_, rfl⟩
  have i1 : ¬ n < 1 := by rw [hn]; unfold s; omega
  have i2 : ¬ 12 < n := by rw [hn]; unfold s; omega
  have HS := Lib.hid hn
  rw [← hn]
  clear hk hn
  go_enter Try.func5, Try.ntmps5
  go_upto_region 2 with (go_at_call 7; refine HNA.out.mono ?_; rintro e w1 ⟨rfl, hp, hb, -⟩; have HPa0 := Lib.hid hp; have HB1 := Lib.hid hb; have HNB := Lib.hid (new_yes w1 2 (num_in.2 (by decide))); rw [show PS.new 2 = B0 by unfold B0; rfl] at HNB; clear hp hb HNA)
  go_upto_region 3 with (go_at_call 7; refine HNB.out.mono ?_; rintro e w2 ⟨rfl, hp, hb, -⟩; have HPb0 := Lib.hid hp; have HB2 := Lib.hid hb; clear hp hb HNB)
  obtain ⟨B, hB⟩ : ∃ B, B = W.heap.size := ⟨_, rfl⟩
  obtain ⟨da, hda⟩ : ∃ d, d = W.heap.size := ⟨_, rfl⟩
  obtain ⟨db, hdb⟩ : ∃ d, d = w1.heap.size := ⟨_, rfl⟩
  have HW2 := Lib.hid (show Below B W w2 by rw [hB]; exact HB1.out.trans (HB2.out.mono HB1.out.size))
  have HPa := Lib.hid (show PP w2 B da A0 by rw [hB, hda]; exact HPa0.out.next HB2.out)
  have HPb := Lib.hid (show PP w2 B db B0 from ⟨by rw [hdb]; exact HPb0.out.1, by rw [hB, hdb]; exact HB1.out.size⟩)
  have HDD := Lib.hid (show da ≠ db by have := HPa0.out.lt; omega)
  have HBB := Lib.hid hB
  rw [← hda, ← hdb]
  clear HPa0 HPb0 HB1 HB2 hB hda hdb
  have HF := Lib.hid (found_is w2 HPa.out okA0.n0 (fA1 k HK.out))
  rw [← HS.out] at HF
  go_upto_region 5 with fail
  clear i1 i2
  go_upto_region 7 with (first | (go_at_call 21; refine HF.out.mono ?_; rintro e w3 ⟨rfl, hp, ht⟩; have HPa1 := Lib.hid hp; have HPb1 := Lib.hid (ht.pp HPb.out HDD.out.symm); have HW3 := Lib.hid (HW2.out.trans ht.1); have HJ := Lib.hid (join_is w3 HPb1.out okB0.n0 (fB1 k HK.out)); rw [← HS.out] at HJ; clear hp ht HF HPa HPb HW2) | (go_at_call 22; refine HJ.out.mono ?_; rintro e w4 ⟨rfl, hp, ht⟩; have HPb2 := Lib.hid hp; have HPa2 := Lib.hid (ht.pp HPa1.out HDD.out); have HW4 := Lib.hid (HW3.out.trans ht.1); have HA := Lib.hid (asked_is w4 HPa2.out (okA1 k).n0 (fA2 k HK.out)); rw [← HS.out] at HA; clear hp ht HJ HPa1 HPb1 HW3) | (go_at_call 25; refine HA.out.mono ?_; rintro e w5 ⟨rfl, hp, ht⟩; have HPa3 := Lib.hid hp; have HPb3 := Lib.hid (ht.pp HPb2.out HDD.out.symm); have HW5 := Lib.hid (HW4.out.trans ht.1); have HJD := Lib.hid (joined_is w5 HPb3.out (okB1 k).n0 (fB2 k HK.out)); rw [← HS.out] at HJD; clear hp ht HA HPa2 HPb2 HW4) | (go_at_call 23; refine HJD.out.mono ?_; rintro e w6 ⟨rfl, hp, ht⟩; have HPb4 := Lib.hid hp; have HPa4 := Lib.hid (ht.pp HPa3.out HDD.out); have HW6 := Lib.hid (HW5.out.trans ht.1); clear hp ht HJD HPa3 HPb3 HW5))
  have HC0 := Lib.hid (leave_is w6 HPb4.out (okB2 k).n0 (fB3 k HK.out))
  rw [← HS.out] at HC0
  go_wp2_with (first | (go_at_call 18; first | (refine HC0.out.mono ?_; rintro e w7 ⟨rfl, hp, ht⟩; have HPb7 := Lib.hid hp; have HPa7 := Lib.hid (ht.pp HPa4.out HDD.out); have HW7 := Lib.hid (HW6.out.trans ht.1); have HC1 := Lib.hid (leaving_is w7 HPa7.out (okA2 k).n0 (fA4ft k HK.out)); rw [← HS.out] at HC1; clear hp ht HC0 HPa4 HPb4 HW6)) | (go_at_call 26; first | (refine HC1.out.mono ?_; rintro e w8 ⟨rfl, hp, ht⟩; have HPa8 := Lib.hid hp; have HPb8 := Lib.hid (ht.pp HPb7.out HDD.out.symm); have HW8 := Lib.hid (HW7.out.trans ht.1); have HC2 := Lib.hid (left_is w8 HPb8.out (okB3 k).n0 (fB5ft k HK.out)); rw [← HS.out] at HC2; clear hp ht HC1 HPa7 HPb7 HW7)) | (go_at_call 24; first | (refine HC2.out.mono ?_; rintro e w9 ⟨rfl, hp, ht⟩; have HPb9 := Lib.hid hp; have HPa9 := Lib.hid (ht.pp HPa8.out HDD.out); have HW9 := Lib.hid (HW8.out.trans ht.1); have HC3 := Lib.hid (state_any w9 HPa9.out (s k)); rw [saft k HK.out] at HC3; rw [← HS.out] at HC3; clear hp ht HC2 HPa8 HPb8 HW8)) | (go_at_call 13; first | (refine HC3.out.mono ?_; rintro e w10 ⟨rfl, hb⟩; have HPa10 := Lib.hid (HPa9.out.next hb); have HPb10 := Lib.hid (HPb9.out.next hb); have HW10 := Lib.hid (HW9.out.trans (hb.mono (Nat.le_trans HPa9.out.2 (Nat.le_of_lt HPa9.out.lt)))); have HC4 := Lib.hid (state_any w10 HPb10.out (s k)); rw [sbft k HK.out] at HC4; rw [← HS.out] at HC4; clear hb HC3 HPa9 HPb9 HW9) | (refine HC4.out.mono ?_; rintro e w11 ⟨rfl, hb⟩; have HW11 := Lib.hid (HW10.out.trans (hb.mono (Nat.le_trans HPa10.out.2 (Nat.le_of_lt HPa10.out.lt)))); have HSZ := Lib.hid (show B ≤ w11.heap.size from Nat.le_trans HPa10.out.2 (Nat.le_trans (Nat.le_of_lt HPa10.out.lt) hb.size)); clear hb HC4)) | (go_at_call 17; first | (refine (num_any _ true).mono ?_; rintro e wn ⟨rfl, rfl⟩; rw [show numI true = 1 from rfl]) | (refine (num_any _ false).mono ?_; rintro e wn ⟨rfl, rfl⟩; rw [show numI false = 0 from rfl])) | (go_at_call 8; refine (alive_any _).mono ?_; rintro e wz ⟨rfl, hb⟩; have HWZ := Lib.hid (HW11.out.trans (hb.mono HSZ.out)); clear hb))
  go_ret
  exact ⟨rfl, by have h := HWZ.out; rw [HBB.out] at h; exact h⟩
set_option maxRecDepth 20000 in
set_option maxHeartbeats 8000000 in
theorem walk_ff {k : Nat} (hk : k < 12) : Calls Try.prog 5 #[.bool false, .bool false, .int .i64 (s k)] W fun e W' => e = .returned (.bool true) ∧ Below W.heap.size W W' := by
  have HNA := Lib.hid (new_yes W 1 (num_in.2 (by decide)))
  rw [show PS.new 1 = A0 by unfold A0; rfl] at HNA
  have HK := Lib.hid hk
  obtain ⟨n, hn⟩ : ∃ n, n = s k := ⟨_, rfl⟩
  have i1 : ¬ n < 1 := by rw [hn]; unfold s; omega
  have i2 : ¬ 12 < n := by rw [hn]; unfold s; omega
  have HS := Lib.hid hn
  rw [← hn]
  clear hk hn
  go_enter Try.func5, Try.ntmps5
  go_upto_region 2 with (go_at_call 7; refine HNA.out.mono ?_; rintro e w1 ⟨rfl, hp, hb, -⟩; have HPa0 := Lib.hid hp; have HB1 := Lib.hid hb; have HNB := Lib.hid (new_yes w1 2 (num_in.2 (by decide))); rw [show PS.new 2 = B0 by unfold B0; rfl] at HNB; clear hp hb HNA)
  go_upto_region 3 with (go_at_call 7; refine HNB.out.mono ?_; rintro e w2 ⟨rfl, hp, hb, -⟩; have HPb0 := Lib.hid hp; have HB2 := Lib.hid hb; clear hp hb HNB)
  obtain ⟨B, hB⟩ : ∃ B, B = W.heap.size := ⟨_, rfl⟩
  obtain ⟨da, hda⟩ : ∃ d, d = W.heap.size := ⟨_, rfl⟩
  obtain ⟨db, hdb⟩ : ∃ d, d = w1.heap.size := ⟨_, rfl⟩
  have HW2 := Lib.hid (show Below B W w2 by rw [hB]; exact HB1.out.trans (HB2.out.mono HB1.out.size))
  have HPa := Lib.hid (show PP w2 B da A0 by rw [hB, hda]; exact HPa0.out.next HB2.out)
  have HPb := Lib.hid (show PP w2 B db B0 from ⟨by rw [hdb]; exact HPb0.out.1, by rw [hB, hdb]; exact HB1.out.size⟩)
  have HDD := Lib.hid (show da ≠ db by have := HPa0.out.lt; omega)
  have HBB := Lib.hid hB
  rw [← hda, ← hdb]
  clear HPa0 HPb0 HB1 HB2 hB hda hdb
  have HF := Lib.hid (found_is w2 HPa.out okA0.n0 (fA1 k HK.out))
  rw [← HS.out] at HF
  go_upto_region 5 with fail
  clear i1 i2
  go_upto_region 7 with (first | (go_at_call 21; refine HF.out.mono ?_; rintro e w3 ⟨rfl, hp, ht⟩; have HPa1 := Lib.hid hp; have HPb1 := Lib.hid (ht.pp HPb.out HDD.out.symm); have HW3 := Lib.hid (HW2.out.trans ht.1); have HJ := Lib.hid (join_is w3 HPb1.out okB0.n0 (fB1 k HK.out)); rw [← HS.out] at HJ; clear hp ht HF HPa HPb HW2) | (go_at_call 22; refine HJ.out.mono ?_; rintro e w4 ⟨rfl, hp, ht⟩; have HPb2 := Lib.hid hp; have HPa2 := Lib.hid (ht.pp HPa1.out HDD.out); have HW4 := Lib.hid (HW3.out.trans ht.1); have HA := Lib.hid (asked_is w4 HPa2.out (okA1 k).n0 (fA2 k HK.out)); rw [← HS.out] at HA; clear hp ht HJ HPa1 HPb1 HW3) | (go_at_call 25; refine HA.out.mono ?_; rintro e w5 ⟨rfl, hp, ht⟩; have HPa3 := Lib.hid hp; have HPb3 := Lib.hid (ht.pp HPb2.out HDD.out.symm); have HW5 := Lib.hid (HW4.out.trans ht.1); have HJD := Lib.hid (joined_is w5 HPb3.out (okB1 k).n0 (fB2 k HK.out)); rw [← HS.out] at HJD; clear hp ht HA HPa2 HPb2 HW4) | (go_at_call 23; refine HJD.out.mono ?_; rintro e w6 ⟨rfl, hp, ht⟩; have HPb4 := Lib.hid hp; have HPa4 := Lib.hid (ht.pp HPa3.out HDD.out); have HW6 := Lib.hid (HW5.out.trans ht.1); clear hp ht HJD HPa3 HPb3 HW5))
  have HC0 := Lib.hid (state_any w6 HPa4.out (s k))
  rw [saff k HK.out] at HC0
  rw [← HS.out] at HC0
  go_wp2_with (first | (go_at_call 13; first | (refine HC0.out.mono ?_; rintro e w7 ⟨rfl, hb⟩; have HPa7 := Lib.hid (HPa4.out.next hb); have HPb7 := Lib.hid (HPb4.out.next hb); have HW7 := Lib.hid (HW6.out.trans (hb.mono (Nat.le_trans HPa4.out.2 (Nat.le_of_lt HPa4.out.lt)))); have HC1 := Lib.hid (state_any w7 HPb7.out (s k)); rw [sbff k HK.out] at HC1; rw [← HS.out] at HC1; clear hb HC0 HPa4 HPb4 HW6) | (refine HC1.out.mono ?_; rintro e w8 ⟨rfl, hb⟩; have HW8 := Lib.hid (HW7.out.trans (hb.mono (Nat.le_trans HPa7.out.2 (Nat.le_of_lt HPa7.out.lt)))); have HSZ := Lib.hid (show B ≤ w8.heap.size from Nat.le_trans HPa7.out.2 (Nat.le_trans (Nat.le_of_lt HPa7.out.lt) hb.size)); clear hb HC1)) | (go_at_call 17; first | (refine (num_any _ true).mono ?_; rintro e wn ⟨rfl, rfl⟩; rw [show numI true = 1 from rfl]) | (refine (num_any _ false).mono ?_; rintro e wn ⟨rfl, rfl⟩; rw [show numI false = 0 from rfl])) | (go_at_call 8; refine (alive_any _).mono ?_; rintro e wz ⟨rfl, hb⟩; have HWZ := Lib.hid (HW8.out.trans (hb.mono HSZ.out)); clear hb))
  go_ret
  exact ⟨rfl, by have h := HWZ.out; rw [HBB.out] at h; exact h⟩
set_option maxRecDepth 20000 in
set_option maxHeartbeats 8000000 in
theorem walk_out (f g : Bool) {n : Int} (hn : numB n = false) : Calls Try.prog 5 #[.bool f, .bool g, .int .i64 n] W fun e W' => e = .returned (.bool true) ∧ Below W.heap.size W W' := by
  have HNA := Lib.hid (new_yes W 1 (num_in.2 (by decide)))
  have hor : n < 1 ∨ (¬ n < 1 ∧ 12 < n) := by
    by_cases h : n < 1
    · exact .inl h
    · refine .inr ⟨h, ?_⟩
      by_cases h2 : 12 < n
      · exact h2
      · rw [num_in.2 (by omega)] at hn; cases hn
  clear hn
  rcases hor with i1 | ⟨i1, i2⟩
  all_goals
    go_enter Try.func5, Try.ntmps5
    go_upto_region 2 with (go_at_call 7; refine HNA.out.mono ?_; rintro e w1 ⟨rfl, hp, hb, -⟩; have HB1 := Lib.hid hb; have HNB := Lib.hid (new_yes w1 2 (num_in.2 (by decide))); clear hp hb HNA)
    go_upto_region 3 with (go_at_call 7; refine HNB.out.mono ?_; rintro e w2 ⟨rfl, hp, hb, -⟩; have HB2 := Lib.hid (HB1.out.trans (hb.mono HB1.out.size)); clear hp hb HNB)
    go_wp2_with (go_at_call 8; refine (alive_any _).mono ?_; rintro e wz ⟨rfl, hb⟩; have HWZ := Lib.hid (HB2.out.trans (hb.mono HB2.out.size)); clear hb)
    go_ret
    exact ⟨rfl, HWZ.out⟩
theorem walk (f g : Bool) (n : Int) : Calls Try.prog 5 #[.bool f, .bool g, .int .i64 n] W fun e W' => e = .returned (.bool true) ∧ Below W.heap.size W W' := by
  cases hn : numB n with
  | false => exact walk_out W f g hn
  | true =>
    obtain ⟨k, hk, rfl⟩ := num_of hn
    cases f <;> cases g
    · exact walk_ff W hk
    · exact walk_ft W hk
    · exact walk_tf W hk
    · exact walk_tt W hk
end
end Stay
end Pe
end Go.Proofs.Ytlceljcplmcjgaa

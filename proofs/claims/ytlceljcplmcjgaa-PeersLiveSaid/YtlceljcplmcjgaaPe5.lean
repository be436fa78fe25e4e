/-
peers: Of, Sellers, Leave.
-/
import Derived.Test.YtlceljcplmcjgaaPe4
namespace Go.Proofs.Ytlceljcplmcjgaa
open Go.RowKit
set_option linter.unusedSimpArgs false
set_option linter.unusedVariables false
namespace Pe
def PS.ofL (x : PS) (n : Int) : List Nat := Nd.thoseL fun m => x.peV n (m - 1)
def PS.sellersL (x : PS) : List Nat := Nd.thoseL fun m => decide (x.stV (m : Nat) ≠ 0)
section
variable (W : World) {B d : Nat} {x : PS}
set_option maxRecDepth 20000 in
set_option maxHeartbeats 4000000 in
theorem of_any (h : PP W B d x) (n : Int) : Calls Try.prog 11 #[.pointer (some ⟨d, 0, none⟩), .int .i64 n] W fun e W' => ∃ v, e = .returned v ∧ Nd.Nds W' W.heap.size v (x.ofL n) ∧ Below W.heap.size W W' := by
  have HA := Lib.hid (at_any W h n)
  obtain ⟨p, hp⟩ : ∃ p, p = fun m => x.peV n (m - 1) := ⟨_, rfl⟩
  obtain ⟨q, hq⟩ : ∃ q, q = x.peV n := ⟨_, rfl⟩
  have HPQ := Lib.hid (show ∀ j, p (j + 1) = q j by intro j; rw [hp, hq]; rfl)
  unfold PS.ofL
  rw [← hp]
  rw [← hq] at HA
  have c1 := run_field_1 (x.stV n) q
  clear h hp hq
  go_enter Try.func11, Try.ntmps11
  go_upto_region 3 with (go_at_call 36; refine HA.out.mono ?_; rintro e w1 ⟨rfl, hb⟩; have HB1 := Lib.hid hb; clear hb HA)
  clear c1
  go_loopw [5, 12] (fun v i wr => ∃ j : Nat, j ≤ 12 ∧ i = .int .i64 j ∧ Nd.Nds wr W.heap.size v (Nd.thoseN p j) ∧ Below W.heap.size W wr) (fun _ i _ => 12 - (intOf i).toNat)
  case atStart => exact ⟨0, Nat.zero_le _, rfl, Nd.Nds.nil _ _, HB1.out⟩
  case round =>
    obtain ⟨j, hj, rfl, hN, hb⟩ := hrel
    have HN := Lib.hid hN
    have HB := Lib.hid hb
    by_cases hlt : j < 12
    · have i1 : (j : Int) < 12 := by omega
      obtain ⟨jj, hjj⟩ : ∃ jj, jj = j + 1 := ⟨_, rfl⟩
      have HW := Lib.hid (Nd.wrap_n j jj hjj (by omega))
      have HJ := Lib.hid (And.intro hjj hlt)
      have HS := Lib.hid (Nd.those_succ p j)
      have hc := run_index_bl q hlt
      have hpj := HPQ.out j
      rw [← hjj] at HS hpj
      clear hN hb hj hlt hjj
      go_upto_region 4 with fail
      clear i1
      cases hq : q j with
      | false =>
        rw [hq] at hc hpj
        have HP := Lib.hid hpj
        clear hpj hq
        go_wp2_with fail
        (try rw [HW.out])
        go_roundw
        case rel => exact ⟨jj, by have := HJ.out; omega, rfl, by rw [HS.out, HP.out, if_neg (by decide)]; exact HN.out, HB.out⟩
        case measure => have := HJ.out; simp [intOf]; omega
      | true =>
        rw [hq] at hc hpj
        have HP := Lib.hid hpj
        clear hpj hq
        obtain ⟨A, c, hv⟩ := HN.out.shape
        subst hv
        go_upto_region 6 with fail
        clear hc
        go_upto_region 7 with (refine wpList_plain rfl fun K hK => ?_; refine Nd.wp_app_int _ _ _ rfl W.heap.size _ (Nd.thoseN p j) rfl (HN.out.next ((Below.refl _ _).alloc (Nat.le_refl _) _)) wr.heap.size 1 jj rfl ?_ (by have := Nd.those_le p j; have := HJ.out; omega) (by have := HB.out.size; simp; omega) ?_; (focus ((try rw [HW.out]); exact (Blk.new wr 3 #[.int .i64 (jj : Nat)]).cell 0)); intro v' w' hN' hg' _; refine hK _ _ ?_; clear hK K; have HN3 := Lib.hid hN'; have HG := Lib.hid hg'; clear hN' hg'; (try simp only [Act.put, List.setIfInBounds_toArray, List.set_cons_zero, List.set_cons_succ]))
        go_wp2_with fail
        rw [HW.out]
        go_roundw
        case rel => exact ⟨jj, by have := HJ.out; omega, rfl, by rw [HS.out, HP.out, if_pos rfl]; exact HN3.out, Nd.below_grown (HB.out.alloc HB.out.size _) HG.out (fun k hk => (HN.out.lt k hk).1)⟩
        case measure => have := HJ.out; simp [intOf]; omega
    · have i1 : ¬ (j : Int) < 12 := by omega
      have hj12 : j = 12 := by omega
      subst hj12
      clear hN hb hj hlt
      go_wp2_with fail
      go_ret
      exact ⟨_, rfl, HN.out, HB.out⟩
set_option maxRecDepth 20000 in
set_option maxHeartbeats 4000000 in
theorem sellers_any (h : PP W B d x) : Calls Try.prog 19 #[.pointer (some ⟨d, 0, none⟩)] W fun e W' => ∃ v, e = .returned v ∧ Nd.Nds W' W.heap.size v x.sellersL ∧ Below W.heap.size W W' := by
  have HP0 := Lib.hid h
  obtain ⟨p, hp⟩ : ∃ p : Nat → Bool, p = fun m => decide (x.stV (m : Nat) ≠ 0) := ⟨_, rfl⟩
  have HPQ := Lib.hid (show ∀ m : Nat, p m = decide (x.stV (m : Nat) ≠ 0) by intro m; rw [hp])
  unfold PS.sellersL
  rw [← hp]
  clear h hp
  go_enter Try.func19, Try.ntmps19
  go_upto_region 3 with fail
  go_loopw [3, 5] (fun v i wr => ∃ j : Nat, j ≤ 12 ∧ i = .int .i64 j ∧ Nd.Nds wr W.heap.size v (Nd.thoseN p j) ∧ Below W.heap.size W wr) (fun _ i _ => 12 - (intOf i).toNat)
  case atStart => exact ⟨0, Nat.zero_le _, rfl, Nd.Nds.nil _ _, Below.refl _ _⟩
  case round =>
    obtain ⟨j, hj, rfl, hN, hb⟩ := hrel
    have HN := Lib.hid hN
    have HB := Lib.hid hb
    by_cases hlt : j < 12
    · have i1 : (j : Int) < 12 := by omega
      obtain ⟨jj, hjj⟩ : ∃ jj, jj = j + 1 := ⟨_, rfl⟩
      have HW := Lib.hid (Nd.wrap_n j jj hjj (by omega))
      have HJ := Lib.hid (And.intro hjj hlt)
      have HS := Lib.hid (Nd.those_succ p j)
      rw [← hjj] at HS
      have HC := Lib.hid (state_any wr (HP0.out.next hb) ((jj : Nat) : Int))
      have hpj := HPQ.out jj
      obtain ⟨s, hs⟩ : ∃ s, s = x.stV ((jj : Nat) : Int) := ⟨_, rfl⟩
      rw [← hs] at HC hpj
      clear hN hb hj hlt hjj hs
      go_upto_region 4 with fail
      clear i1
      by_cases h0 : s = 0
      · subst h0
        have HP := Lib.hid (show p jj = false by rw [hpj]; rfl)
        clear hpj
        go_wp2_with ((try rw [HW.out]); refine HC.out.mono ?_; rintro e w2 ⟨rfl, hb2⟩; have HB2 := Lib.hid hb2; clear hb2 HC)
        (try rw [HW.out])
        go_roundw
        case rel => exact ⟨jj, by have := HJ.out; omega, rfl, by rw [HS.out, HP.out, if_neg (by decide)]; exact HN.out.next HB2.out, HB.out.trans (HB2.out.mono HB.out.size)⟩
        case measure => have := HJ.out; simp [intOf]; omega
      · have HP := Lib.hid (show p jj = true by rw [hpj]; exact decide_eq_true h0)
        have i1 : (s != 0) = true := by simp [h0]
        clear hpj h0
        obtain ⟨A, c, hv⟩ := HN.out.shape
        subst hv
        go_upto_region 6 with ((try rw [HW.out]); refine HC.out.mono ?_; rintro e w2 ⟨rfl, hb2⟩; have HB2 := Lib.hid hb2; clear hb2 HC)
        clear i1
        have HN2 := Lib.hid (HN.out.next HB2.out)
        have HB3 := Lib.hid (HB.out.trans (HB2.out.mono HB.out.size))
        go_upto_region 7 with (refine wpList_plain rfl fun K hK => ?_; refine Nd.wp_app_int _ _ _ rfl W.heap.size _ (Nd.thoseN p j) rfl (HN2.out.next ((Below.refl _ _).alloc (Nat.le_refl _) _)) w2.heap.size 1 jj rfl ?_ (by have := Nd.those_le p j; have := HJ.out; omega) (by have := HB3.out.size; simp; omega) ?_; (focus ((try rw [HW.out]); exact (Blk.new w2 3 #[.int .i64 (jj : Nat)]).cell 0)); intro v' w' hN' hg' _; refine hK _ _ ?_; clear hK K; have HN3 := Lib.hid hN'; have HG := Lib.hid hg'; clear hN' hg'; (try simp only [Act.put, List.setIfInBounds_toArray, List.set_cons_zero, List.set_cons_succ]))
        go_wp2_with fail
        rw [HW.out]
        go_roundw
        case rel => exact ⟨jj, by have := HJ.out; omega, rfl, by rw [HS.out, HP.out, if_pos rfl]; exact HN3.out, Nd.below_grown (HB3.out.alloc HB3.out.size _) HG.out (fun k hk => (HN2.out.lt k hk).1)⟩
        case measure => have := HJ.out; simp [intOf]; omega
    · have i1 : ¬ (j : Int) < 12 := by omega
      have hj12 : j = 12 := by omega
      subst hj12
      clear hN hb hj hlt
      go_wp2_with fail
      go_ret
      exact ⟨_, rfl, HN.out, HB.out⟩
end
def PS.leaveF (x : PS) (n : Int) : (Int × Int) × PS :=
  if numB n = true then (if x.stV n = 0 then ((0, 4), x) else if x.stV n ≠ 2 then ((0, 15), x) else match x.ofL n with
    | [m] => (((m : Nat), 0), x.set (n - 1).toNat 3)
    | _ => ((0, 7), x))
  else ((0, 12), x)
section
variable (W : World) {B d : Nat} {x : PS}
set_option maxRecDepth 20000 in
set_option maxHeartbeats 4000000 in
theorem leave_any (h : PP W B d x) (hx : x.n ≠ 0) (n : Int) : Calls Try.prog 18 #[.pointer (some ⟨d, 0, none⟩), .int .i64 n] W fun e W' => e = .returned (.tuple #[.int .i64 (x.leaveF n).1.1, .int .i64 (x.leaveF n).1.2]) ∧ PP W' B d (x.leaveF n).2 ∧ Tn B d W W' := by
  have HO := Lib.hid (of_any W h n)
  have HP := Lib.hid h
  have HX := Lib.hid hx
  obtain ⟨l, hl⟩ : ∃ l, l = x.ofL n := ⟨_, rfl⟩
  rw [← hl] at HO
  have hll : l.length ≤ 12 := by rw [hl]; exact Nd.those_le _ _
  go_enter Try.func18, Try.ntmps18
  go_upto_region 2 with (go_at_call 11; refine HO.out.mono ?_; rintro e w1 ⟨v, rfl, hN, hb⟩; have HN := Lib.hid hN; have HB := Lib.hid hb; clear hN hb HO)
  obtain ⟨A, c, rfl⟩ := HN.out.shape
  have HP1 := Lib.hid (HP.out.next HB.out)
  have HT1 := Lib.hid (Tn.next HP.out HB.out)
  have HM := Lib.hid (made_any w1 HP1.out)
  rw [decide_eq_true hx] at HM
  have HNS := Lib.hid (isseller_any w1 n)
  have HS := Lib.hid (state_any w1 HP1.out n)
  cases hn : numB n with
  | false =>
    have HF := Lib.hid (show x.leaveF n = ((0, 12), x) by unfold PS.leaveF; rw [hn]; rfl)
    rw [hn] at HNS
    clear h hx hn hl hll
    go_wp2_with (first | (go_at_call 41; refine HM.out.mono ?_; rintro e w2 ⟨rfl, rfl⟩; clear HM) | (go_at_call 42; refine HNS.out.mono ?_; rintro e w2 ⟨rfl, rfl⟩; clear HNS))
    go_ret2
    exact ⟨by rw [HF.out]; rfl, by rw [HF.out]; exact HP1.out, HT1.out⟩
  | true =>
    rw [hn] at HNS
    obtain ⟨k, hk, rfl⟩ := num_of hn
    obtain ⟨s, hs⟩ : ∃ s, s = x.stV ((k : Int) + 1) := ⟨_, rfl⟩
    rw [← hs] at HS
    by_cases h0 : s = 0
    · subst h0
      have HF := Lib.hid (show x.leaveF ((k : Int) + 1) = ((0, 4), x) by unfold PS.leaveF; rw [hn, if_pos rfl, if_pos hs.symm])
      clear h hx hn hl hll hk hs
      go_wp2_with (first | (go_at_call 41; refine HM.out.mono ?_; rintro e w2 ⟨rfl, rfl⟩; clear HM) | (go_at_call 42; refine HNS.out.mono ?_; rintro e w2 ⟨rfl, rfl⟩; clear HNS) | (go_at_call 13; refine HS.out.mono ?_; rintro e w2 ⟨rfl, hb⟩; have HP2 := Lib.hid (HP1.out.next hb); have HT2 := Lib.hid (HT1.out.trans (Tn.next HP1.out hb)); clear hb HS))
      go_ret2
      exact ⟨by rw [HF.out]; rfl, by rw [HF.out]; exact HP2.out, HT2.out⟩
    · have i0 : (s == 0) = false := by simp [h0]
      by_cases h2 : s = 2
      · have HS2 := Lib.hid (show x.stV ((k : Int) + 1) = 2 by rw [← hs]; exact h2)
        subst h2
        by_cases h1 : l.length = 1
        · obtain ⟨m, hm⟩ : ∃ m, l = [m] := List.length_eq_one_iff.1 h1
          have HF := Lib.hid (show x.leaveF ((k : Int) + 1) = ((((m : Nat) : Int), 0), x.set k 3) by
            unfold PS.leaveF
            rw [hn, if_pos rfl, if_neg (by rw [HS2.out]; decide), if_neg (by rw [HS2.out]; decide), ← hl, hm, show ((k : Int) + 1 - 1).toNat = k by omega])
          subst hm
          obtain ⟨g, o, c', ev, hg, hcm⟩ := HN.out.at_ (i := 0) (n := m) rfl
          simp only [Value.slice.injEq] at ev
          obtain ⟨rfl, -, -⟩ := ev
          have HK := Lib.hid hk
          have HG := Lib.hid (And.intro hg hcm)
          have HGD := Lib.hid (show g ≠ d by
            have := (HN.out.lt g rfl).1
            have := HP.out.lt
            omega)
          clear h hx hn hl hll hk hs h0 i0 h1 hg hcm
          go_wp2_with (first | (go_at_call 41; refine HM.out.mono ?_; rintro e w2 ⟨rfl, rfl⟩; clear HM) | (go_at_call 42; refine HNS.out.mono ?_; rintro e w2 ⟨rfl, rfl⟩; clear HNS) | (go_at_call 13; first | (refine HS.out.mono ?_; rintro e w2 ⟨rfl, hb⟩; have HP2 := Lib.hid (HP1.out.next hb); have HT2 := Lib.hid (HT1.out.trans (Tn.next HP1.out hb)); have HG2 := Lib.hid (And.intro (Nat.lt_of_lt_of_le HG.out.1 hb.size) (cell_next hb HG.out.2)); have HS3 := Lib.hid (state_any w2 HP2.out ((k : Int) + 1)); rw [HS2.out] at HS3; clear hb HS HG) | (refine HS3.out.mono ?_; rintro e w3 ⟨rfl, hb⟩; have HP3 := Lib.hid (HP2.out.next hb); have HT3 := Lib.hid (HT2.out.trans (Tn.next HP2.out hb)); have HG3 := Lib.hid (And.intro (Nat.lt_of_lt_of_le HG2.out.1 hb.size) (cell_next hb HG2.out.2)); clear hb HS3 HG2)) | (go_at_call 43; refine (set_any w3 HP3.out HK.out 3).mono ?_; rintro e w4 ⟨rfl, hp, ht, -⟩; have HP4 := Lib.hid hp; have HT4 := Lib.hid (HT3.out.trans ht); have hcc := (show w4.cell? ⟨g, o, none⟩ = some (.int .i64 (m : Nat)) from (World.cell?_of_block (ht.2 g HG3.out.1 HGD.out)).trans HG3.out.2); clear hp ht))
          go_ret2
          exact ⟨by rw [HF.out]; rfl, by rw [HF.out]; exact HP4.out, HT4.out⟩
        · have HF := Lib.hid (show x.leaveF ((k : Int) + 1) = ((0, 7), x) by
            unfold PS.leaveF
            rw [hn, if_pos rfl, if_neg (by rw [HS2.out]; decide), if_neg (by rw [HS2.out]; decide), ← hl]
            rcases l with _ | ⟨a, _ | ⟨b, t⟩⟩
            · rfl
            · exact absurd rfl h1
            · rfl)
          obtain ⟨n1, hn1⟩ : ∃ n1, n1 = l.length := ⟨_, rfl⟩
          rw [← hn1] at h1 HN hll ⊢
          have i1 : ((n1 : Int) != 1) = true := by simp; omega
          clear h hx hn hl hll hk hs h0 i0 h1 hn1
          go_wp2_with (first | (go_at_call 41; refine HM.out.mono ?_; rintro e w2 ⟨rfl, rfl⟩; clear HM) | (go_at_call 42; refine HNS.out.mono ?_; rintro e w2 ⟨rfl, rfl⟩; clear HNS) | (go_at_call 13; first | (refine HS.out.mono ?_; rintro e w2 ⟨rfl, hb⟩; have HP2 := Lib.hid (HP1.out.next hb); have HT2 := Lib.hid (HT1.out.trans (Tn.next HP1.out hb)); have HS3 := Lib.hid (state_any w2 HP2.out ((k : Int) + 1)); rw [HS2.out] at HS3; clear hb HS) | (refine HS3.out.mono ?_; rintro e w3 ⟨rfl, hb⟩; have HP3 := Lib.hid (HP2.out.next hb); have HT3 := Lib.hid (HT2.out.trans (Tn.next HP2.out hb)); clear hb HS3)))
          go_ret2
          exact ⟨by rw [HF.out]; rfl, by rw [HF.out]; exact HP3.out, HT3.out⟩
      · have HF := Lib.hid (show x.leaveF ((k : Int) + 1) = ((0, 15), x) by unfold PS.leaveF; rw [hn, if_pos rfl, if_neg (by rw [← hs]; exact h0), if_pos (by rw [← hs]; exact h2)])
        have i2 : (s != 2) = true := by simp [h2]
        have HS2 := Lib.hid hs
        clear h hx hn hl hll hk hs h0 h2
        go_wp2_with (first | (go_at_call 41; refine HM.out.mono ?_; rintro e w2 ⟨rfl, rfl⟩; clear HM) | (go_at_call 42; refine HNS.out.mono ?_; rintro e w2 ⟨rfl, rfl⟩; clear HNS) | (go_at_call 13; first | (refine HS.out.mono ?_; rintro e w2 ⟨rfl, hb⟩; have HP2 := Lib.hid (HP1.out.next hb); have HT2 := Lib.hid (HT1.out.trans (Tn.next HP1.out hb)); have HS3 := Lib.hid (state_any w2 HP2.out ((k : Int) + 1)); rw [← HS2.out] at HS3; clear hb HS) | (refine HS3.out.mono ?_; rintro e w3 ⟨rfl, hb⟩; have HP3 := Lib.hid (HP2.out.next hb); have HT3 := Lib.hid (HT2.out.trans (Tn.next HP2.out hb)); clear hb HS3)))
        go_ret2
        exact ⟨by rw [HF.out]; rfl, by rw [HF.out]; exact HP3.out, HT3.out⟩
end
end Pe
end Go.Proofs.Ytlceljcplmcjgaa

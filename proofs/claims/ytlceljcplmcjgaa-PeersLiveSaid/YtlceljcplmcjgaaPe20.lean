/-
peers: the document's Leave, Put; should.
-/
import Derived.Test.YtlceljcplmcjgaaPe19
import Derived.Test.YtlceljcplmcjgaaPe15
import Derived.Test.YtlceljcplmcjgaaRNum
namespace Go.Proofs.Ytlceljcplmcjgaa
open Go.RowKit
set_option linter.unusedSimpArgs false
set_option linter.unusedVariables false
namespace Pe
def leaveL (x : PS) (q : Nat) (l : List Nat) : (Int × Int) × PS := match l with
  | [m] => ((((m : Nat) : Int), 0), x.set (q - 1) 3)
  | _ => ((0, 7), x)
section
variable (W : World) {B d : Nat} {x : PS}
set_option maxRecDepth 20000 in
set_option maxHeartbeats 2000000 in
theorem rleave_any (h : RP W B d x) (hx : x.Ok) (n : Int) : Calls Try.prog 33 #[.pointer (some ⟨d, 0, none⟩), .int .i64 n] W fun e W' => e = .returned (.tuple #[.int .i64 (x.leaveF n).1.1, .int .i64 (x.leaveF n).1.2]) ∧ RP W' B d (x.leaveF n).2 ∧ Tn B d W W' := by
  have HR := Lib.hid h
  cases hn : numB n with
  | false =>
    have HF := Lib.hid (show x.leaveF n = ((0, 12), x) by unfold PS.leaveF; rw [hn]; rfl)
    rcases num_not hn with i1 | ⟨i1, i2⟩
    all_goals
      clear h hx hn
      go_enter Try.func33, Try.ntmps33
      go_wp2_with fail
      go_ret2
      exact ⟨by rw [HF.out]; rfl, by rw [HF.out]; exact HR.out, Tn.refl _ _ _⟩
  | true =>
    obtain ⟨q, h1, h2, rfl, hk⟩ := num_q hn
    have hst := stV_q hx.n0 h1 h2
    have HO := Lib.hid (rof_any W h hx.n0 ((q : Nat) : Int))
    obtain ⟨l, hl⟩ : ∃ l, l = x.ofL ((q : Nat) : Int) := ⟨_, rfl⟩
    rw [← hl] at HO
    obtain ⟨s, hs⟩ : ∃ s, s = x.st (q - 1) := ⟨_, rfl⟩
    rw [← hs] at hst
    have HC := Lib.hid (fun w (hb : Below W.heap.size W w) => (show w.cell? ⟨d, 1 + q, none⟩ = some (.int .i64 s) ∧ w.frozen? ⟨d, 1 + q, none⟩ = false from ⟨by rw [(h.next hb).cs h1 h2, hs], (h.next hb).1.frozen _⟩))
    have HSET := Lib.hid (fun w (hb : Below W.heap.size W w) => (h.next hb).setSt h1 h2 3)
    have i1 : ¬ ((q : Nat) : Int) < 1 := by omega
    have i2 : ¬ 12 < ((q : Nat) : Int) := by omega
    have i3 : ((q : Nat) : Int) < 13 := by omega
    have i4 : ¬ ((q : Nat) : Int) < 0 := by omega
    have HLF := Lib.hid (show x.leaveF ((q : Nat) : Int) = (if s = 0 then (((0 : Int), (4 : Int)), x) else if s ≠ 2 then ((0, 15), x) else leaveL x q l) by unfold PS.leaveF; rw [hn, if_pos rfl, hst, hk, hl]; rfl)
    obtain ⟨F, hF⟩ : ∃ F, F = x.leaveF ((q : Nat) : Int) := ⟨_, rfl⟩
    rw [← hF] at HLF ⊢
    clear h hx hn hst hl hs h1 h2 hk hF
    by_cases h0 : s = 0
    · subst h0
      have HF := Lib.hid (HLF.out.trans (if_pos rfl))
      go_enter Try.func33, Try.ntmps33
      go_upto_region 4 with (go_at_call 12; refine HO.out.mono ?_; rintro e w1 ⟨v, rfl, hN, hb⟩; have HB := Lib.hid hb; have c1 := (HC.out w1 hb).1; clear hN hb HO)
      go_wp2_with fail
      go_ret2
      exact ⟨by rw [HF.out]; rfl, by rw [HF.out]; exact HR.out.next HB.out, Tn.nextR HR.out HB.out⟩
    · have i5 : (s == 0) = false := by simp [h0]
      have HF0 := Lib.hid (HLF.out.trans (if_neg h0))
      by_cases h2 : s = 2
      · subst h2
        have HF1 := Lib.hid (HF0.out.trans (if_neg (by decide)))
        rcases l with _ | ⟨m, _ | ⟨b, t⟩⟩
        · go_enter Try.func33, Try.ntmps33
          go_upto_region 4 with (go_at_call 12; refine HO.out.mono ?_; rintro e w1 ⟨v, rfl, hN, hb⟩; have HB := Lib.hid hb; have c1 := (HC.out w1 hb).1; have HN := Lib.hid hN; clear hN hb HO)
          obtain ⟨A, c, rfl⟩ := HN.out.shape
          go_wp2_with fail
          go_ret2
          exact ⟨by rw [HF1.out]; rfl, by rw [HF1.out]; exact HR.out.next HB.out, Tn.nextR HR.out HB.out⟩
        · go_enter Try.func33, Try.ntmps33
          go_upto_region 4 with (go_at_call 12; refine HO.out.mono ?_; rintro e w1 ⟨v, rfl, hN, hb⟩; have HB := Lib.hid hb; have c1 := (HC.out w1 hb).1; have z1 := (HC.out w1 hb).2; have HN := Lib.hid hN; clear hN hb HO)
          obtain ⟨g, o, c, ev, hg, hc⟩ := HN.out.at_ (i := 0) (n := m) rfl
          subst ev
          have HT := Lib.hid (show Tn B d w1 (w1.setCell ⟨d, 1 + q, none⟩ (.int .i64 3)) from Tn.cell HR.out.2 _ _)
          have hgd : g ≠ d := by have := (HN.out.lt g rfl).1; have := HR.out.lt; omega
          have hcc : (w1.setCell ⟨d, 1 + q, none⟩ (.int .i64 3)).cell? ⟨g, o, none⟩ = some (.int .i64 (m : Nat)) := (World.cell?_of_block (HT.out.2 g hg hgd)).trans hc
          have HRS := Lib.hid (HSET.out w1 HB.out)
          obtain ⟨w2, hw2⟩ : ∃ w2, w2 = w1.setCell ⟨d, 1 + q, none⟩ (.int .i64 3) := ⟨_, rfl⟩
          rw [← hw2] at HT hcc HRS
          clear hg hc hgd
          go_upto_region 11 with fail
          rw [← hw2]
          clear hw2 c1 z1
          go_wp2_with fail
          go_ret2
          exact ⟨by rw [HF1.out]; rfl, by rw [HF1.out]; show RP w2 B d (x.set (q - 1) 3); rw [set_nz (by decide)]; exact HRS.out, (Tn.nextR HR.out HB.out).trans HT.out⟩
        · go_enter Try.func33, Try.ntmps33
          go_upto_region 4 with (go_at_call 12; refine HO.out.mono ?_; rintro e w1 ⟨v, rfl, hN, hb⟩; have HB := Lib.hid hb; have c1 := (HC.out w1 hb).1; have HN := Lib.hid hN; clear hN hb HO)
          obtain ⟨A, c, rfl⟩ := HN.out.shape
          obtain ⟨n2, hn2⟩ : ∃ n2, n2 = (m :: b :: t).length := ⟨_, rfl⟩
          rw [← hn2] at HN
          (try rw [← hn2])
          have i6 : (((n2 : Nat) : Int) != 1) = true := by
            have : 2 ≤ n2 := by rw [hn2]; simp
            simp
            omega
          clear hn2
          go_wp2_with fail
          go_ret2
          exact ⟨by rw [HF1.out]; rfl, by rw [HF1.out]; exact HR.out.next HB.out, Tn.nextR HR.out HB.out⟩
      · have HF := Lib.hid (HF0.out.trans (if_pos h2))
        have i6 : (s != 2) = true := by simp [h2]
        clear h0 h2
        go_enter Try.func33, Try.ntmps33
        go_upto_region 4 with (go_at_call 12; refine HO.out.mono ?_; rintro e w1 ⟨v, rfl, hN, hb⟩; have HB := Lib.hid hb; have c1 := (HC.out w1 hb).1; clear hN hb HO)
        go_wp2_with fail
        go_ret2
        exact ⟨by rw [HF.out]; rfl, by rw [HF.out]; exact HR.out.next HB.out, Tn.nextR HR.out HB.out⟩
set_option maxRecDepth 20000 in
set_option maxHeartbeats 4000000 in
theorem should_any (h : RP W B d x) (hx : x.Ok) (o : Op4) : Calls Try.prog 10 #[.pointer (some ⟨d, 0, none⟩), .agg o.cells.toArray] W fun e W' => e = .returned (.int .i64 (x.doF o).1) ∧ RP W' B d (x.doF o).2 ∧ Tn B d W W' := by
  obtain ⟨k, s, n, y⟩ := o
  obtain ⟨w1, hw1⟩ : ∃ w1, w1 = W.alloc (.cells #[.int .i64 k, .int .i64 s, .int .i64 n, .bool y] 36) := ⟨_, rfl⟩
  have hb1 : Below W.heap.size W w1 := by rw [hw1]; exact (Below.refl _ _).alloc (Nat.le_refl _) _
  have hx1 : Blk w1 W.heap.size 36 #[.int .i64 k, .int .i64 s, .int .i64 n, .bool y] := by rw [hw1]; exact Blk.new _ _ _
  have c0 : w1.cell? ⟨W.heap.size, 0, none⟩ = some (.int .i64 k) := hx1.cell 0
  have c1 : w1.cell? ⟨W.heap.size, 1, none⟩ = some (.int .i64 s) := hx1.cell 1
  have c2 : w1.cell? ⟨W.heap.size, 2, none⟩ = some (.int .i64 n) := hx1.cell 2
  have c3 : w1.cell? ⟨W.heap.size, 3, none⟩ = some (.bool y) := hx1.cell 3
  have HT1 := Lib.hid (Tn.nextR h hb1)
  have HP1 := Lib.hid (h.next hb1)
  have HX := Lib.hid hx
  show Calls Try.prog 10 #[.pointer (some ⟨d, 0, none⟩), .agg #[.int .i64 k, .int .i64 s, .int .i64 n, .bool y]] W _
  clear h hx hb1 hx1
  by_cases h0 : k = 0
  · have HE := Lib.hid (show x.doF ⟨k, s, n, y⟩ = x.foundF s by unfold PS.doF; dsimp only; rw [if_pos h0])
    have HC := Lib.hid (rfound_any w1 HP1.out HX.out s)
    subst h0
    go_enter Try.func10, Try.ntmps10
    go_upto_region 1 with fail
    rw [← hw1]
    clear hw1
    go_wp2_with (first | (go_at_call 29; refine HC.out.mono ?_; rintro e w2 ⟨rfl, hp, ht⟩; have H1 := Lib.hid hp; have H2 := Lib.hid ht; clear hp ht HC))
    go_ret
    exact ⟨by rw [HE.out]; rfl, by rw [HE.out]; exact H1.out, HT1.out.trans H2.out⟩
  by_cases h1 : k = 1
  · have HE := Lib.hid (show x.doF ⟨k, s, n, y⟩ = x.joinF s n by unfold PS.doF; dsimp only; rw [if_neg h0, if_pos h1])
    have HC := Lib.hid (rjoin_any w1 HP1.out HX.out s n)
    subst h1
    go_enter Try.func10, Try.ntmps10
    go_upto_region 1 with fail
    rw [← hw1]
    clear hw1
    go_wp2_with (first | (go_at_call 30; refine HC.out.mono ?_; rintro e w2 ⟨rfl, hp, ht⟩; have H1 := Lib.hid hp; have H2 := Lib.hid ht; clear hp ht HC))
    go_ret
    exact ⟨by rw [HE.out]; rfl, by rw [HE.out]; exact H1.out, HT1.out.trans H2.out⟩
  by_cases h2 : k = 2
  · have HE := Lib.hid (show x.doF ⟨k, s, n, y⟩ = (numI (x.askedF s n).1, (x.askedF s n).2) by unfold PS.doF; dsimp only; rw [if_neg h0, if_neg h1, if_pos h2])
    have HC := Lib.hid (rasked_any w1 HP1.out HX.out s n)
    subst h2
    go_enter Try.func10, Try.ntmps10
    go_upto_region 1 with fail
    rw [← hw1]
    clear hw1
    go_wp2_with (first | (go_at_call 31; refine HC.out.mono ?_; rintro e w2 ⟨rfl, hp, ht⟩; have H1 := Lib.hid hp; have H2 := Lib.hid ht; clear hp ht HC) | (go_at_call 17; refine (num_any _ _).mono ?_; rintro e w3 ⟨rfl, rfl⟩))
    go_ret
    exact ⟨by rw [HE.out]; rfl, by rw [HE.out]; exact H1.out, HT1.out.trans H2.out⟩
  by_cases h3 : k = 3
  · have HE := Lib.hid (show x.doF ⟨k, s, n, y⟩ = x.toldF s n 1 (if y then 2 else 0) by unfold PS.doF; dsimp only; rw [if_neg h0, if_neg h1, if_neg h2, if_pos h3])
    have HC := Lib.hid (rjoined_any w1 HP1.out HX.out s n y)
    obtain ⟨t, ht⟩ : ∃ t : Int, t = (if y then 2 else 0) := ⟨_, rfl⟩
    rw [← ht] at HC HE
    clear ht
    subst h3
    go_enter Try.func10, Try.ntmps10
    go_upto_region 1 with fail
    rw [← hw1]
    clear hw1
    go_wp2_with (first | (go_at_call 32; refine HC.out.mono ?_; rintro e w2 ⟨rfl, hp, ht⟩; have H1 := Lib.hid hp; have H2 := Lib.hid ht; clear hp ht HC))
    go_ret
    exact ⟨by rw [HE.out]; rfl, by rw [HE.out]; exact H1.out, HT1.out.trans H2.out⟩
  by_cases h4 : k = 4
  · have HE := Lib.hid (show x.doF ⟨k, s, n, y⟩ = (100 * (x.leaveF s).1.1 + (x.leaveF s).1.2, (x.leaveF s).2) by unfold PS.doF; dsimp only; rw [if_neg h0, if_neg h1, if_neg h2, if_neg h3, if_pos h4])
    have HC := Lib.hid (rleave_any w1 HP1.out HX.out s)
    have hl := leave_le HX.out s
    obtain ⟨⟨⟨la, lb⟩, lx⟩, hlf⟩ : ∃ r, r = x.leaveF s := ⟨_, rfl⟩
    rw [← hlf] at hl HC HE
    dsimp only at hl HC HE
    have e1 : wrap64 (100 * la) = 100 * la := by unfold wrap64; omega
    have e2 : wrap64 (100 * la + lb) = 100 * la + lb := by unfold wrap64; omega
    have HE2 := Lib.hid e2
    clear hl hlf e2
    subst h4
    go_enter Try.func10, Try.ntmps10
    go_upto_region 1 with fail
    rw [← hw1]
    clear hw1
    go_wp2_with (first | (go_at_call 33; refine HC.out.mono ?_; rintro e w2 ⟨rfl, hp, ht⟩; have H1 := Lib.hid hp; have H2 := Lib.hid ht; clear hp ht HC))
    go_ret
    exact ⟨by rw [HE.out]; exact congrArg (fun z => Ending.returned (Value.int .i64 z)) HE2.out, by rw [HE.out]; exact H1.out, HT1.out.trans H2.out⟩
  by_cases h5 : k = 5
  · have HE := Lib.hid (show x.doF ⟨k, s, n, y⟩ = (numI (x.leavingF s n).1, (x.leavingF s n).2) by unfold PS.doF; dsimp only; rw [if_neg h0, if_neg h1, if_neg h2, if_neg h3, if_neg h4, if_pos h5])
    have HC := Lib.hid (rleaving_any w1 HP1.out HX.out s n)
    subst h5
    go_enter Try.func10, Try.ntmps10
    go_upto_region 1 with fail
    rw [← hw1]
    clear hw1
    go_wp2_with (first | (go_at_call 34; refine HC.out.mono ?_; rintro e w2 ⟨rfl, hp, ht⟩; have H1 := Lib.hid hp; have H2 := Lib.hid ht; clear hp ht HC) | (go_at_call 17; refine (num_any _ _).mono ?_; rintro e w3 ⟨rfl, rfl⟩))
    go_ret
    exact ⟨by rw [HE.out]; rfl, by rw [HE.out]; exact H1.out, HT1.out.trans H2.out⟩
  by_cases h6 : k = 6
  · have HE := Lib.hid (show x.doF ⟨k, s, n, y⟩ = x.toldF s n 3 (if y then 0 else 2) by unfold PS.doF; dsimp only; rw [if_neg h0, if_neg h1, if_neg h2, if_neg h3, if_neg h4, if_neg h5, if_pos h6])
    have HC := Lib.hid (rleft_any w1 HP1.out HX.out s n y)
    obtain ⟨t, ht⟩ : ∃ t : Int, t = (if y then 0 else 2) := ⟨_, rfl⟩
    rw [← ht] at HC HE
    clear ht
    subst h6
    go_enter Try.func10, Try.ntmps10
    go_upto_region 1 with fail
    rw [← hw1]
    clear hw1
    go_wp2_with (first | (go_at_call 35; refine HC.out.mono ?_; rintro e w2 ⟨rfl, hp, ht⟩; have H1 := Lib.hid hp; have H2 := Lib.hid ht; clear hp ht HC))
    go_ret
    exact ⟨by rw [HE.out]; rfl, by rw [HE.out]; exact H1.out, HT1.out.trans H2.out⟩
  have HE := Lib.hid (show x.doF ⟨k, s, n, y⟩ = (0, x) by unfold PS.doF; dsimp only; rw [if_neg h0, if_neg h1, if_neg h2, if_neg h3, if_neg h4, if_neg h5, if_neg h6])
  have g0 : (k == 0) = false := by simpa using h0
  have g1 : (k == 1) = false := by simpa using h1
  have g2 : (k == 2) = false := by simpa using h2
  have g3 : (k == 3) = false := by simpa using h3
  have g4 : (k == 4) = false := by simpa using h4
  have g5 : (k == 5) = false := by simpa using h5
  have g6 : (k == 6) = false := by simpa using h6
  clear h0 h1 h2 h3 h4 h5 h6
  go_enter Try.func10, Try.ntmps10
  go_upto_region 1 with fail
  rw [← hw1]
  clear hw1
  go_wp2_with fail
  go_ret
  exact ⟨by rw [HE.out]; rfl, by rw [HE.out]; exact HP1.out, HT1.out⟩
end
end Pe
end Go.Proofs.Ytlceljcplmcjgaa

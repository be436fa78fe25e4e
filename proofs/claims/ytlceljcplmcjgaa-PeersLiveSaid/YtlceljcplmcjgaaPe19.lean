/-
peers: the document's Found, Join, Asked, sole, end, Joined, Left, Leave, Leaving.
-/
import Derived.Test.YtlceljcplmcjgaaPe18
namespace Go.Proofs.Ytlceljcplmcjgaa
open Go.RowKit
set_option linter.unusedSimpArgs false
set_option linter.unusedVariables false
namespace Pe
theorem built_z13 : Try.prog.built 30 [] = some z13.toArray := by kernel_rfl
theorem z13info : (Try.prog.info? 30).map (·.size) = some z13.toArray.size := by kernel_rfl
theorem z13_all : z13.toArray.all (·.oneCell') = true := by unfold z13; simp [Value.oneCell']
theorem set_nz {s : Int} (h : s ≠ 0) (x : PS) (k : Nat) : x.set k s = x.setSt k s := by unfold PS.set; rw [if_neg h]
/-- Is a node the only peer, in a state? -/
def PS.soleV (x : PS) (n s m : Int) : Bool := decide (x.stV n = s) && (match x.ofL n with
  | [a] => decide (((a : Nat) : Int) = m)
  | _ => false)
section
variable (W : World) {B d : Nat} {x : PS}
set_option maxRecDepth 20000 in
theorem rfound_any (h : RP W B d x) (hx : x.Ok) (n : Int) : Calls Try.prog 29 #[.pointer (some ⟨d, 0, none⟩), .int .i64 n] W fun e W' => e = .returned (.int .i64 (x.foundF n).1) ∧ RP W' B d (x.foundF n).2 ∧ Tn B d W W' := by
  have HR := Lib.hid h
  cases hn : numB n with
  | false =>
    have HF := Lib.hid (show x.foundF n = (12, x) by unfold PS.foundF; rw [hn]; rfl)
    rcases num_not hn with i1 | ⟨i1, i2⟩
    all_goals
      clear h hx hn
      go_enter Try.func29, Try.ntmps29
      go_wp2_with fail
      go_ret
      exact ⟨by rw [HF.out]; rfl, by rw [HF.out]; exact HR.out, Tn.refl _ _ _⟩
  | true =>
    obtain ⟨q, h1, h2, rfl, hk⟩ := num_q hn
    have hst := stV_q hx.n0 h1 h2
    have c1 := h.cs h1 h2
    have z1 := h.1.frozen (1 + q)
    obtain ⟨s, hs⟩ : ∃ s, s = x.st (q - 1) := ⟨_, rfl⟩
    have hs0 := (hx.st (q - 1) (by omega)).1
    rw [← hs] at hst c1 hs0
    have i1 : ¬ ((q : Nat) : Int) < 1 := by omega
    have i2 : ¬ 12 < ((q : Nat) : Int) := by omega
    have i3 : ((q : Nat) : Int) < 13 := by omega
    have i4 : ¬ ((q : Nat) : Int) < 0 := by omega
    by_cases h0 : s = 0
    · subst h0
      have HF := Lib.hid (show x.foundF ((q : Nat) : Int) = (0, x.setSt (q - 1) 2) by unfold PS.foundF; rw [hn, if_pos rfl, if_pos hst, hk, set_nz (by decide)])
      have HR2 := Lib.hid (h.setSt h1 h2 2)
      clear h hx hn hst hs hs0 h1 h2 hk
      go_enter Try.func29, Try.ntmps29
      go_wp2_with fail
      go_ret
      exact ⟨by rw [HF.out]; rfl, by rw [HF.out]; exact HR2.out, Tn.cell HR.out.2 _ _⟩
    · have HF := Lib.hid (show x.foundF ((q : Nat) : Int) = (10, x) by unfold PS.foundF; rw [hn, if_pos rfl, if_neg (by rw [hst]; exact h0)])
      have i5 : 0 < s := by omega
      clear h hx hn hst hs hs0 h0 h1 h2 hk
      go_enter Try.func29, Try.ntmps29
      go_wp2_with fail
      go_ret
      exact ⟨by rw [HF.out]; rfl, by rw [HF.out]; exact HR.out, Tn.refl _ _ _⟩
set_option maxRecDepth 20000 in
set_option maxHeartbeats 1000000 in
theorem rjoin_any (h : RP W B d x) (hx : x.Ok) (n m : Int) : Calls Try.prog 30 #[.pointer (some ⟨d, 0, none⟩), .int .i64 n, .int .i64 m] W fun e W' => e = .returned (.int .i64 (x.joinF n m).1) ∧ RP W' B d (x.joinF n m).2 ∧ Tn B d W W' := by
  have HR := Lib.hid h
  have HO := Lib.hid (rother_any W h m)
  cases hn : numB n with
  | false =>
    have HF := Lib.hid (show x.joinF n m = (12, x) by unfold PS.joinF; rw [hn]; rfl)
    rcases num_not hn with i1 | ⟨i1, i2⟩
    all_goals
      clear h hx hn
      go_enter Try.func30, Try.ntmps30
      go_wp2_with fail
      go_ret
      exact ⟨by rw [HF.out]; rfl, by rw [HF.out]; exact HR.out, Tn.refl _ _ _⟩
  | true =>
    obtain ⟨q, h1, h2, rfl, hk⟩ := num_q hn
    have hst := stV_q hx.n0 h1 h2
    have c1 := h.cs h1 h2
    have z1 := h.1.frozen (1 + q)
    obtain ⟨s, hs⟩ : ∃ s, s = x.st (q - 1) := ⟨_, rfl⟩
    have hs0 := (hx.st (q - 1) (by omega)).1
    rw [← hs] at hst c1 hs0
    have i1 : ¬ ((q : Nat) : Int) < 1 := by omega
    have i2 : ¬ 12 < ((q : Nat) : Int) := by omega
    have i3 : ((q : Nat) : Int) < 13 := by omega
    have i4 : ¬ ((q : Nat) : Int) < 0 := by omega
    cases ho : x.otherV m with
    | false =>
      have HF := Lib.hid (show x.joinF ((q : Nat) : Int) m = (11, x) by unfold PS.joinF; rw [hn, if_pos rfl, ho]; rfl)
      rw [ho] at HO
      clear h hx hn hst hs hs0 h1 h2 hk ho
      go_enter Try.func30, Try.ntmps30
      go_wp2_with (go_at_call 51; refine HO.out.mono ?_; rintro e w2 ⟨rfl, rfl⟩; clear HO)
      go_ret
      exact ⟨by rw [HF.out]; rfl, by rw [HF.out]; exact HR.out, Tn.refl _ _ _⟩
    | true =>
      rw [ho] at HO
      obtain ⟨m', h3, h4, rfl, hk2⟩ := num_q (other_num ho)
      by_cases h0 : s = 0
      · subst h0
        have HF := Lib.hid (show x.joinF ((q : Nat) : Int) ((m' : Nat) : Int) = (0, (x.setSt (q - 1) 1).setPe (q - 1) (m' - 1) true) by unfold PS.joinF; rw [hn, if_pos rfl, ho, if_pos rfl, if_pos hst, hk, hk2, set_nz (by decide)])
        have hR2 := h.setSt h1 h2 1
        have c2 := hR2.cp h1 h2 h3 h4
        have z2 := hR2.1.frozen (14 + q * 13 + m')
        have HR3 := Lib.hid (hR2.setPe h1 h2 h3 h4 true)
        have i5 : ((m' : Nat) : Int) < 13 := by omega
        have i6 : ¬ ((m' : Nat) : Int) < 0 := by omega
        obtain ⟨w1, hw1⟩ : ∃ w1, w1 = W.setCell ⟨d, 1 + q, none⟩ (.int .i64 1) := ⟨_, rfl⟩
        have HT := Lib.hid (show Tn B d W w1 by rw [hw1]; exact Tn.cell h.2 _ _)
        rw [← hw1] at c2 z2 HR3
        clear h hx hn hst hs hs0 h1 h2 hk ho h3 h4 hk2 hR2
        go_enter Try.func30, Try.ntmps30
        go_upto_region 8 with (go_at_call 51; refine HO.out.mono ?_; rintro e w2 ⟨rfl, rfl⟩; clear HO)
        rw [← hw1]
        clear hw1 c1 z1
        go_wp2_with fail
        go_ret
        exact ⟨by rw [HF.out]; rfl, by rw [HF.out]; exact HR3.out, HT.out.trans (Tn.cell HR.out.2 _ _)⟩
      · have HF := Lib.hid (show x.joinF ((q : Nat) : Int) ((m' : Nat) : Int) = (10, x) by unfold PS.joinF; rw [hn, if_pos rfl, ho, if_pos rfl, if_neg (by rw [hst]; exact h0)])
        have i5 : 0 < s := by omega
        clear h hx hn hst hs hs0 h0 h1 h2 hk ho h3 h4 hk2
        go_enter Try.func30, Try.ntmps30
        go_wp2_with (go_at_call 51; refine HO.out.mono ?_; rintro e w2 ⟨rfl, rfl⟩; clear HO)
        go_ret
        exact ⟨by rw [HF.out]; rfl, by rw [HF.out]; exact HR.out, Tn.refl _ _ _⟩
set_option maxRecDepth 20000 in
set_option maxHeartbeats 1000000 in
theorem rasked_any (h : RP W B d x) (hx : x.Ok) (n m : Int) : Calls Try.prog 31 #[.pointer (some ⟨d, 0, none⟩), .int .i64 n, .int .i64 m] W fun e W' => e = .returned (.bool (x.askedF n m).1) ∧ RP W' B d (x.askedF n m).2 ∧ Tn B d W W' := by
  have HR := Lib.hid h
  have HO := Lib.hid (rother_any W h m)
  have HS := Lib.hid (rstate_any W h hx.n0 n)
  obtain ⟨s, hs⟩ : ∃ s, s = x.stV n := ⟨_, rfl⟩
  rw [← hs] at HS
  by_cases h0 : s = 2
  · subst h0
    obtain ⟨q, h1, h2, rfl, hk⟩ := num_q (st_num (by rw [← hs]; decide : x.stV n ≠ 0))
    cases ho : x.otherV m with
    | false =>
      have HF := Lib.hid (show x.askedF ((q : Nat) : Int) m = (false, x) by unfold PS.askedF; rw [if_neg (by rw [ho]; simp)])
      rw [ho] at HO
      clear h hx hs h1 h2 hk ho
      go_enter Try.func31, Try.ntmps31
      go_wp2_with (first | (go_at_call 14; refine HS.out.mono ?_; rintro e w2 ⟨rfl, rfl⟩; clear HS) | (go_at_call 51; refine HO.out.mono ?_; rintro e w2 ⟨rfl, rfl⟩; clear HO))
      go_ret
      exact ⟨by rw [HF.out]; rfl, by rw [HF.out]; exact HR.out, Tn.refl _ _ _⟩
    | true =>
      rw [ho] at HO
      obtain ⟨m', h3, h4, rfl, hk2⟩ := num_q (other_num ho)
      have hh := hasV_q hx.n0 h1 h2 h3 h4
      have c2 := h.cp h1 h2 h3 h4
      have z2 := h.1.frozen (14 + q * 13 + m')
      have HR3 := Lib.hid (h.setPe h1 h2 h3 h4 true)
      have i3 : ((q : Nat) : Int) < 13 := by omega
      have i4 : ¬ ((q : Nat) : Int) < 0 := by omega
      have i5 : ((m' : Nat) : Int) < 13 := by omega
      have i6 : ¬ ((m' : Nat) : Int) < 0 := by omega
      cases hp : x.pe (q - 1) (m' - 1) with
      | true =>
        rw [hp] at hh c2
        have HF := Lib.hid (show x.askedF ((q : Nat) : Int) ((m' : Nat) : Int) = (false, x) by unfold PS.askedF; rw [if_neg (by rw [hh]; simp)])
        clear h hx hs h1 h2 hk ho h3 h4 hk2 hh hp
        go_enter Try.func31, Try.ntmps31
        go_wp2_with (first | (go_at_call 14; refine HS.out.mono ?_; rintro e w2 ⟨rfl, rfl⟩; clear HS) | (go_at_call 51; refine HO.out.mono ?_; rintro e w2 ⟨rfl, rfl⟩; clear HO))
        go_ret
        exact ⟨by rw [HF.out]; rfl, by rw [HF.out]; exact HR.out, Tn.refl _ _ _⟩
      | false =>
        rw [hp] at hh c2
        have HF := Lib.hid (show x.askedF ((q : Nat) : Int) ((m' : Nat) : Int) = (true, x.setPe (q - 1) (m' - 1) true) by unfold PS.askedF; rw [if_pos ⟨hs.symm, ho, hh⟩, hk, hk2])
        clear h hx hs h1 h2 hk ho h3 h4 hk2 hh hp
        go_enter Try.func31, Try.ntmps31
        go_wp2_with (first | (go_at_call 14; refine HS.out.mono ?_; rintro e w2 ⟨rfl, rfl⟩; clear HS) | (go_at_call 51; refine HO.out.mono ?_; rintro e w2 ⟨rfl, rfl⟩; clear HO))
        go_ret
        exact ⟨by rw [HF.out]; rfl, by rw [HF.out]; exact HR3.out, Tn.cell HR.out.2 _ _⟩
  · have HF := Lib.hid (show x.askedF n m = (false, x) by unfold PS.askedF; rw [if_neg (by rw [← hs]; exact fun h => h0 h.1)])
    have i1 : (s != 2) = true := by simp [h0]
    clear h hx hs h0
    go_enter Try.func31, Try.ntmps31
    go_wp2_with (first | (go_at_call 14; refine HS.out.mono ?_; rintro e w2 ⟨rfl, rfl⟩; clear HS))
    go_ret
    exact ⟨by rw [HF.out]; rfl, by rw [HF.out]; exact HR.out, Tn.refl _ _ _⟩
set_option maxRecDepth 20000 in
set_option maxHeartbeats 1000000 in
theorem rleaving_any (h : RP W B d x) (hx : x.Ok) (n m : Int) : Calls Try.prog 34 #[.pointer (some ⟨d, 0, none⟩), .int .i64 n, .int .i64 m] W fun e W' => e = .returned (.bool (x.leavingF n m).1) ∧ RP W' B d (x.leavingF n m).2 ∧ Tn B d W W' := by
  have HR := Lib.hid h
  have HS := Lib.hid (rstate_any W h hx.n0 n)
  obtain ⟨s, hs⟩ : ∃ s, s = x.stV n := ⟨_, rfl⟩
  rw [← hs] at HS
  by_cases h0 : s = 2
  · subst h0
    obtain ⟨q, h1, h2, rfl, hk⟩ := num_q (st_num (by rw [← hs]; decide : x.stV n ≠ 0))
    cases hm : numB m with
    | false =>
      have HF := Lib.hid (show x.leavingF ((q : Nat) : Int) m = (false, x) by unfold PS.leavingF PS.hasV; rw [hm, if_neg (by simp)])
      rcases num_not hm with i1 | ⟨i1, i2⟩
      all_goals
        clear h hx hs h1 h2 hk hm
        go_enter Try.func34, Try.ntmps34
        go_wp2_with (first | (go_at_call 14; refine HS.out.mono ?_; rintro e w2 ⟨rfl, rfl⟩; clear HS))
        go_ret
        exact ⟨by rw [HF.out]; rfl, by rw [HF.out]; exact HR.out, Tn.refl _ _ _⟩
    | true =>
      obtain ⟨m', h3, h4, rfl, hk2⟩ := num_q hm
      have hh := hasV_q hx.n0 h1 h2 h3 h4
      have c2 := h.cp h1 h2 h3 h4
      have z2 := h.1.frozen (14 + q * 13 + m')
      have HR3 := Lib.hid (h.setPe h1 h2 h3 h4 false)
      have i1 : ¬ ((m' : Nat) : Int) < 1 := by omega
      have i2 : ¬ 12 < ((m' : Nat) : Int) := by omega
      have i3 : ((q : Nat) : Int) < 13 := by omega
      have i4 : ¬ ((q : Nat) : Int) < 0 := by omega
      have i5 : ((m' : Nat) : Int) < 13 := by omega
      have i6 : ¬ ((m' : Nat) : Int) < 0 := by omega
      cases hp : x.pe (q - 1) (m' - 1) with
      | false =>
        rw [hp] at hh c2
        have HF := Lib.hid (show x.leavingF ((q : Nat) : Int) ((m' : Nat) : Int) = (false, x) by unfold PS.leavingF; rw [if_neg (by rw [hh]; simp)])
        clear h hx hs h1 h2 hk h3 h4 hk2 hh hp hm
        go_enter Try.func34, Try.ntmps34
        go_wp2_with (first | (go_at_call 14; refine HS.out.mono ?_; rintro e w2 ⟨rfl, rfl⟩; clear HS))
        go_ret
        exact ⟨by rw [HF.out]; rfl, by rw [HF.out]; exact HR.out, Tn.refl _ _ _⟩
      | true =>
        rw [hp] at hh c2
        have HF := Lib.hid (show x.leavingF ((q : Nat) : Int) ((m' : Nat) : Int) = (true, x.setPe (q - 1) (m' - 1) false) by unfold PS.leavingF; rw [if_pos ⟨hs.symm, hh⟩, hk, hk2])
        clear h hx hs h1 h2 hk h3 h4 hk2 hh hp hm
        go_enter Try.func34, Try.ntmps34
        go_wp2_with (first | (go_at_call 14; refine HS.out.mono ?_; rintro e w2 ⟨rfl, rfl⟩; clear HS))
        go_ret
        exact ⟨by rw [HF.out]; rfl, by rw [HF.out]; exact HR3.out, Tn.cell HR.out.2 _ _⟩
  · have HF := Lib.hid (show x.leavingF n m = (false, x) by unfold PS.leavingF; rw [if_neg (by rw [← hs]; exact fun h => h0 h.1)])
    have i1 : (s != 2) = true := by simp [h0]
    clear h hx hs h0
    go_enter Try.func34, Try.ntmps34
    go_wp2_with (first | (go_at_call 14; refine HS.out.mono ?_; rintro e w2 ⟨rfl, rfl⟩; clear HS))
    go_ret
    exact ⟨by rw [HF.out]; rfl, by rw [HF.out]; exact HR.out, Tn.refl _ _ _⟩
set_option maxRecDepth 20000 in
set_option maxHeartbeats 1000000 in
theorem rsole_any (h : RP W B d x) (hx : x.Ok) (n s m : Int) : Calls Try.prog 52 #[.pointer (some ⟨d, 0, none⟩), .int .i64 n, .int .i64 s, .int .i64 m] W fun e W' => e = .returned (.bool (x.soleV n s m)) ∧ Below W.heap.size W W' := by
  have HO := Lib.hid (rof_any W h hx.n0 n)
  have HR := Lib.hid h
  have HX := Lib.hid hx.n0
  obtain ⟨l, hl⟩ : ∃ l, l = x.ofL n := ⟨_, rfl⟩
  rw [← hl] at HO
  unfold PS.soleV
  rw [← hl]
  obtain ⟨st, hst⟩ : ∃ st, st = x.stV n := ⟨_, rfl⟩
  rw [← hst]
  have HST := Lib.hid hst.symm
  clear h hx hl hst
  by_cases h0 : st = s
  · subst h0
    rcases l with _ | ⟨a, _ | ⟨b, t⟩⟩
    · refine Calls.mono (R := fun e W' => e = .returned (.bool false) ∧ Below W.heap.size W W') ?_ (by rintro e w ⟨rfl, hb⟩; exact ⟨by rw [decide_eq_true rfl]; rfl, hb⟩)
      go_enter Try.func52, Try.ntmps52
      go_upto_region 2 with (go_at_call 12; refine HO.out.mono ?_; rintro e w1 ⟨v, rfl, hN, hb⟩; have HN := Lib.hid hN; have HB := Lib.hid hb; clear hN hb HO)
      obtain ⟨A, c, rfl⟩ := HN.out.shape
      have HS := Lib.hid (rstate_any w1 (HR.out.next HB.out) HX.out n)
      rw [HST.out] at HS
      go_wp2_with (first | (go_at_call 14; refine HS.out.mono ?_; rintro e w2 ⟨rfl, rfl⟩; clear HS))
      go_ret
      exact ⟨rfl, HB.out⟩
    · have HD := Lib.hid (show (((a : Nat) : Int) == m) = decide (((a : Nat) : Int) = m) by by_cases h : ((a : Nat) : Int) = m <;> simp [h])
      refine Calls.mono (R := fun e W' => e = .returned (.bool (((a : Nat) : Int) == m)) ∧ Below W.heap.size W W') ?_ (by rintro e w ⟨rfl, hb⟩; exact ⟨by rw [HD.out, decide_eq_true rfl]; rfl, hb⟩)
      go_enter Try.func52, Try.ntmps52
      go_upto_region 2 with (go_at_call 12; refine HO.out.mono ?_; rintro e w1 ⟨v, rfl, hN, hb⟩; have HN := Lib.hid hN; have HB := Lib.hid hb; clear hN hb HO)
      obtain ⟨A, c, rfl⟩ := HN.out.shape
      have HS := Lib.hid (rstate_any w1 (HR.out.next HB.out) HX.out n)
      rw [HST.out] at HS
      obtain ⟨g, o, c', ev, hg, hc⟩ := HN.out.at_ (i := 0) (n := a) rfl
      simp only [Value.slice.injEq] at ev
      obtain ⟨rfl, -, rfl⟩ := ev
      have hcc : w1.cell? ⟨g, o, none⟩ = some (.int .i64 (a : Nat)) := hc
      clear hc hg
      go_wp2_with (first | (go_at_call 14; refine HS.out.mono ?_; rintro e w2 ⟨rfl, rfl⟩; clear HS))
      go_ret
      exact ⟨rfl, HB.out⟩
    · refine Calls.mono (R := fun e W' => e = .returned (.bool false) ∧ Below W.heap.size W W') ?_ (by rintro e w ⟨rfl, hb⟩; exact ⟨by rw [decide_eq_true rfl]; rfl, hb⟩)
      go_enter Try.func52, Try.ntmps52
      go_upto_region 2 with (go_at_call 12; refine HO.out.mono ?_; rintro e w1 ⟨v, rfl, hN, hb⟩; have HN := Lib.hid hN; have HB := Lib.hid hb; clear hN hb HO)
      obtain ⟨A, c, rfl⟩ := HN.out.shape
      have HS := Lib.hid (rstate_any w1 (HR.out.next HB.out) HX.out n)
      rw [HST.out] at HS
      obtain ⟨n2, hn2⟩ : ∃ n2, n2 = (a :: b :: t).length := ⟨_, rfl⟩
      rw [← hn2] at HN
      (try rw [← hn2])
      have i1 : (((n2 : Nat) : Int) == 1) = false := by
        have : 2 ≤ n2 := by rw [hn2]; simp
        simp
        omega
      clear hn2
      go_wp2_with (first | (go_at_call 14; refine HS.out.mono ?_; rintro e w2 ⟨rfl, rfl⟩; clear HS))
      go_ret
      exact ⟨rfl, HB.out⟩
  · have i1 : (st == s) = false := by simp [h0]
    have HD := Lib.hid (decide_eq_false h0)
    refine Calls.mono (R := fun e W' => e = .returned (.bool false) ∧ Below W.heap.size W W') ?_ (by rintro e w ⟨rfl, hb⟩; exact ⟨by rw [HD.out]; rfl, hb⟩)
    clear h0
    go_enter Try.func52, Try.ntmps52
    go_upto_region 2 with (go_at_call 12; refine HO.out.mono ?_; rintro e w1 ⟨v, rfl, hN, hb⟩; have HN := Lib.hid hN; have HB := Lib.hid hb; clear hN hb HO)
    obtain ⟨A, c, rfl⟩ := HN.out.shape
    have HS := Lib.hid (rstate_any w1 (HR.out.next HB.out) HX.out n)
    rw [HST.out] at HS
    go_wp2_with (first | (go_at_call 14; refine HS.out.mono ?_; rintro e w2 ⟨rfl, rfl⟩; clear HS))
    go_ret
    exact ⟨rfl, HB.out⟩
set_option maxRecDepth 20000 in
set_option maxHeartbeats 1000000 in
theorem rend_any (h : RP W B d x) {q : Nat} (h1 : 1 ≤ q) (h2 : q ≤ 12) (s : Int) : Calls Try.prog 53 #[.pointer (some ⟨d, 0, none⟩), .int .i64 ((q : Nat) : Int), .int .i64 s] W fun e W' => e = .returned (.int .i64 0) ∧ RP W' B d (x.set (q - 1) s) ∧ Tn B d W W' := by
  have c1 := h.cs h1 h2
  have z1 := h.1.frozen (1 + q)
  have i3 : ((q : Nat) : Int) < 13 := by omega
  have i4 : ¬ ((q : Nat) : Int) < 0 := by omega
  have hR1 := h.setSt h1 h2 s
  have HB := Lib.hid h.2
  obtain ⟨w1, hw1⟩ : ∃ w1, w1 = W.setCell ⟨d, 1 + q, none⟩ (.int .i64 s) := ⟨_, rfl⟩
  rw [← hw1] at hR1
  have HT := Lib.hid (show Tn B d W w1 by rw [hw1]; exact Tn.cell h.2 _ _)
  have HR1 := Lib.hid hR1
  have hth : w1.there d (14 + q * 13) z13.toArray.size := hR1.1.there (by rw [List.size_toArray, List.size_toArray, z13_len, rs_len]; omega)
  have HR2 := Lib.hid (hR1.clear h1 h2)
  clear h hR1 h1 h2
  by_cases h0 : s = 0
  · subst h0
    have HF := Lib.hid (show x.set (q - 1) 0 = (x.setSt (q - 1) 0).clearPe (q - 1) by unfold PS.set; rw [if_pos rfl, clearPe_set])
    go_enter Try.func53, Try.ntmps53
    go_upto_region 2 with fail
    rw [← hw1]
    clear hw1 c1 z1
    go_wp2_with (first | (refine Nd.wpList_build_lit z13.toArray rfl 30 _ rfl built_z13 ?_) | (refine wpList_store_mid rfl 30 _ _ rfl d (14 + q * 13) z13.toArray rfl rfl hth z13info z13_all ?_))
    go_ret
    exact ⟨rfl, by rw [HF.out]; exact HR2.out, HT.out.trans (Tn.cells HB.out _ _)⟩
  · have HF := Lib.hid (set_nz h0 x (q - 1))
    have i1 : (s == 0) = false := by simp [h0]
    clear h0
    go_enter Try.func53, Try.ntmps53
    go_upto_region 2 with fail
    rw [← hw1]
    clear hw1 c1 z1
    go_wp2_with fail
    go_ret
    exact ⟨rfl, by rw [HF.out]; exact HR1.out, HT.out⟩
end
/-- One peer in such a state: sole is told's test. -/
theorem sole_told {x : PS} (hx : x.Ok) (n m s : Int) (hs : s = 1 ∨ s = 3) : x.soleV n s m = decide (x.stV n = s ∧ x.hasV n m = true) := by
  unfold PS.soleV
  by_cases h : x.stV n = s
  · have hn := st_num (by rw [h]; rcases hs with rfl | rfl <;> decide : x.stV n ≠ 0)
    obtain ⟨k, hk, rfl, hk2, es, ep, eo⟩ := stV_num hx hn
    have hm := hx.may k hk
    rw [← es, h] at hm
    have hl : (lst (x.pe k)).length = 1 := by
      unfold mayB at hm
      rw [if_neg (by rcases hs with rfl | rfl <;> decide), if_pos hs] at hm
      exact of_decide_eq_true hm
    rw [decide_eq_true h, Bool.true_and, eo]
    obtain ⟨a, ha⟩ := List.length_eq_one_iff.1 hl
    rw [ha]
    dsimp only
    rw [decide_eq_decide]
    have hmem : ∀ j, j ∈ lst (x.pe k) ↔ j = a := fun j => by rw [ha]; exact List.mem_singleton
    unfold PS.hasV
    rw [ep]
    constructor
    · intro e
      refine ⟨h, ?_⟩
      have := lst_mem.1 ((hmem a).2 rfl)
      rw [← e, num_in.2 (by omega), Bool.true_and, show (((a : Nat) : Int) - 1).toNat = a - 1 by omega]
      exact this.2.2
    · rintro ⟨-, h2⟩
      simp only [Bool.and_eq_true] at h2
      obtain ⟨q, h1, h3, rfl, hk3⟩ := num_q h2.1
      rw [hk3] at h2
      have := (hmem q).1 (lst_mem.2 ⟨h1, h3, h2.2⟩)
      rw [this]
  · rw [decide_eq_false h, Bool.false_and, decide_eq_false (fun h2 => h h2.1)]
section
variable (W : World) {B d : Nat} {x : PS}
set_option maxRecDepth 20000 in
theorem rjoined_any (h : RP W B d x) (hx : x.Ok) (n m : Int) (y : Bool) : Calls Try.prog 32 #[.pointer (some ⟨d, 0, none⟩), .int .i64 n, .int .i64 m, .bool y] W fun e W' => e = .returned (.int .i64 (x.toldF n m 1 (if y then 2 else 0)).1) ∧ RP W' B d (x.toldF n m 1 (if y then 2 else 0)).2 ∧ Tn B d W W' := by
  have HS := Lib.hid (rsole_any W h hx n 1 m)
  rw [sole_told hx n m 1 (.inl rfl)] at HS
  have HR := Lib.hid h
  by_cases hc : x.stV n = 1 ∧ x.hasV n m = true
  · rw [decide_eq_true hc] at HS
    obtain ⟨q, h1, h2, rfl, hk⟩ := num_q (has_num hc.2).1
    have HQ := Lib.hid (And.intro h1 h2)
    have HF := Lib.hid (show ∀ t, x.toldF ((q : Nat) : Int) m 1 t = (0, x.set (q - 1) t) by intro t; unfold PS.toldF; rw [if_pos hc, hk])
    clear h hx hc h1 h2 hk
    cases y
    all_goals
      go_enter Try.func32, Try.ntmps32
      go_wp2_with (first | (go_at_call 52; refine HS.out.mono ?_; rintro e w2 ⟨rfl, hb⟩; have HR2 := Lib.hid (HR.out.next hb); have HT2 := Lib.hid (Tn.nextR HR.out hb); clear hb HS) | (go_at_call 53; refine (rend_any w2 HR2.out HQ.out.1 HQ.out.2 _).mono ?_; rintro e w3 ⟨rfl, hr, ht⟩; have HR3 := Lib.hid hr; have HT3 := Lib.hid (HT2.out.trans ht); clear hr ht))
      go_ret
      exact ⟨by rw [HF.out]; rfl, by rw [HF.out]; exact HR3.out, HT3.out⟩
  · rw [decide_eq_false hc] at HS
    have HF := Lib.hid (show x.toldF n m 1 (if y then 2 else 0) = (7, x) by unfold PS.toldF; rw [if_neg hc])
    obtain ⟨F, hF⟩ : ∃ F, F = x.toldF n m 1 (if y then 2 else 0) := ⟨_, rfl⟩
    rw [← hF] at HF ⊢
    clear h hx hc hF
    go_enter Try.func32, Try.ntmps32
    go_wp2_with (first | (go_at_call 52; refine HS.out.mono ?_; rintro e w2 ⟨rfl, hb⟩; have HR2 := Lib.hid (HR.out.next hb); have HT2 := Lib.hid (Tn.nextR HR.out hb); clear hb HS))
    go_ret
    exact ⟨by rw [HF.out]; rfl, by rw [HF.out]; exact HR2.out, HT2.out⟩
set_option maxRecDepth 20000 in
theorem rleft_any (h : RP W B d x) (hx : x.Ok) (n m : Int) (y : Bool) : Calls Try.prog 35 #[.pointer (some ⟨d, 0, none⟩), .int .i64 n, .int .i64 m, .bool y] W fun e W' => e = .returned (.int .i64 (x.toldF n m 3 (if y then 0 else 2)).1) ∧ RP W' B d (x.toldF n m 3 (if y then 0 else 2)).2 ∧ Tn B d W W' := by
  have HS := Lib.hid (rsole_any W h hx n 3 m)
  rw [sole_told hx n m 3 (.inr rfl)] at HS
  have HR := Lib.hid h
  by_cases hc : x.stV n = 3 ∧ x.hasV n m = true
  · rw [decide_eq_true hc] at HS
    obtain ⟨q, h1, h2, rfl, hk⟩ := num_q (has_num hc.2).1
    have HQ := Lib.hid (And.intro h1 h2)
    have HF := Lib.hid (show ∀ t, x.toldF ((q : Nat) : Int) m 3 t = (0, x.set (q - 1) t) by intro t; unfold PS.toldF; rw [if_pos hc, hk])
    clear h hx hc h1 h2 hk
    cases y
    all_goals
      go_enter Try.func35, Try.ntmps35
      go_wp2_with (first | (go_at_call 52; refine HS.out.mono ?_; rintro e w2 ⟨rfl, hb⟩; have HR2 := Lib.hid (HR.out.next hb); have HT2 := Lib.hid (Tn.nextR HR.out hb); clear hb HS) | (go_at_call 53; refine (rend_any w2 HR2.out HQ.out.1 HQ.out.2 _).mono ?_; rintro e w3 ⟨rfl, hr, ht⟩; have HR3 := Lib.hid hr; have HT3 := Lib.hid (HT2.out.trans ht); clear hr ht))
      go_ret
      exact ⟨by rw [HF.out]; rfl, by rw [HF.out]; exact HR3.out, HT3.out⟩
  · rw [decide_eq_false hc] at HS
    have HF := Lib.hid (show x.toldF n m 3 (if y then 0 else 2) = (7, x) by unfold PS.toldF; rw [if_neg hc])
    obtain ⟨F, hF⟩ : ∃ F, F = x.toldF n m 3 (if y then 0 else 2) := ⟨_, rfl⟩
    rw [← hF] at HF ⊢
    clear h hx hc hF
    go_enter Try.func35, Try.ntmps35
    go_wp2_with (first | (go_at_call 52; refine HS.out.mono ?_; rintro e w2 ⟨rfl, hb⟩; have HR2 := Lib.hid (HR.out.next hb); have HT2 := Lib.hid (Tn.nextR HR.out hb); clear hb HS))
    go_ret
    exact ⟨by rw [HF.out]; rfl, by rw [HF.out]; exact HR2.out, HT2.out⟩
end
end Pe
end Go.Proofs.Ytlceljcplmcjgaa

/-
cuts: what Load reads: mustHear.
-/
import Derived.Test.YtedgecijgjcfeaaCu14
namespace Go.Proofs.Ytedgecijgjcfeaa
open Go.RowKit
set_option linter.unusedSimpArgs false
set_option linter.unusedVariables false
variable {L : Nat}
set_option maxHeartbeats 4000000 in
set_option maxRecDepth 20000 in
theorem musthear_any (W : World) {B t k s : Nat} {bs : List Nat} {F : Nat → Prop} {own other : Int} {v : Value} {cs : List Ct} {a b : Sd} (T : Tb W B t F own other v cs a b) (ho : own ≠ 0) (hl : cs.length ≤ 100000) (r : Int) (x : St)
    (hr : Rdr W k s) (h : RdB L W s bs) (hk : k < B) (hs : s < B) (hL : L ≤ B) :
    Calls Try.prog 51 #[.pointer (some ⟨t, 0, none⟩), .pointer (some ⟨k, 0, none⟩), .int .i64 r, .agg x.cells.toArray] W fun e W' =>
      MustP L B k s bs W (decide (hearE other cs b r x = 0)) (DecP W B t F own other cs (if promP a x then ⟨true, St.zero⟩ else a) ⟨true, x⟩) e W' := by
  have hB : B ≤ W.heap.size := Nat.le_of_lt (Nat.lt_of_le_of_lt (T.low t T.ft).1 (T.low t T.ft).2)
  have HT := Lib.hid T
  have HBW := Lib.hid hB
  have HRK := Lib.hid (And.intro hk (And.intro hs hL))
  have HR := Lib.hid hr
  have HB := Lib.hid h
  have hb1 : Below W.heap.size W (W.alloc (.cells x.cells.toArray 39)) := (Below.refl _ _).alloc (Nat.le_refl _) _
  have hP := fun w (T : Tb w B t F own other v cs a b) => hear_any w T ho hl r x
  have HB1 := Lib.hid hb1
  have T1 := Lib.hid (T.next hb1)
  obtain ⟨r0, -, -, -⟩ := st_all (Blk.new W 39 x.cells.toArray)
  unfold HearP at hP
  obtain ⟨n, hn⟩ : ∃ n, n = hearE other cs b r x := ⟨_, rfl⟩
  obtain ⟨a', ha⟩ : ∃ a', a' = (if promP a x then (⟨true, St.zero⟩ : Sd) else a) := ⟨_, rfl⟩
  simp only [← hn, ← ha] at hP
  rw [← hn, ← ha]
  obtain ⟨p, hp⟩ : ∃ p, p = promP a x := ⟨_, rfl⟩
  simp only [← hp] at hP
  clear T ho hl hr h hk hs hL hB hb1 hp ha
  by_cases h0 : n = 0
  · subst h0
    have HP := Lib.hid (fun w T => (hP w T).mono (R' := fun e W' => e = .returned (.tuple #[.bool p, .int .i64 0]) ∧ DecP w B t F own other cs a' ⟨true, x⟩ W') (by intro e W' hh; exact hh.elim (fun h => absurd rfl h.1) (fun h => h.2)))
    clear hP hn
    go_enter Try.func51, Try.ntmps51
    go_upto_region 2 with (first | (refine wpList_load_mid rfl 39 _ rfl _ _ rfl x.cells _ r0 Try.underlying39 rfl (stinfo x) ?_) | (go_at_call 9; refine (HP.out _ T1.out).mono ?_; rintro e w4 ⟨rfl, hD⟩; have HD := Lib.hid hD; clear hD))
    have hD5 := heard_end HT.out HB1.out rfl (fun _ _ => rfl) (Below.refl B _) HD.out
    obtain ⟨v5, T5, t5⟩ := hD5
    have HD5 := Lib.hid (show DecP W B t F own other cs a' ⟨true, x⟩ w4 from ⟨v5, T5, t5⟩)
    have HR5 := Lib.hid (HR.out.low t5.1 HRK.out.1)
    have HB5 := Lib.hid (HB.out.low t5.1 HRK.out.2.1 HRK.out.2.2)
    clear T5 t5 HD r0
    go_wp2_with (first | (go_at_call 41; refine (rmust_yes k s bs _ HR5.out HB5.out).mono ?_; rintro e w6 ⟨rfl, rfl⟩))
    exact ⟨rfl, .tuple #[], by simp [results, Try.results51, go_sem], Or.inl ⟨by simp, rfl, HD5.out, HR5.out, HB5.out⟩⟩
  · have HP := Lib.hid (fun w T => (hP w T).mono (R' := fun e W' => e = .returned (.tuple #[.bool false, .int .i64 n]) ∧ Below w.heap.size w W') (by intro e W' hh; exact hh.elim (fun h => h.2) (fun h => absurd h.1 h0)))
    clear hP hn
    go_enter Try.func51, Try.ntmps51
    go_upto_region 2 with (first | (refine wpList_load_mid rfl 39 _ rfl _ _ rfl x.cells _ r0 Try.underlying39 rfl (stinfo x) ?_) | (go_at_call 9; refine (HP.out _ T1.out).mono ?_; rintro e w4 ⟨rfl, hD⟩; have HD := Lib.hid hD; clear hD))
    have z1 := HB1.out.size
    have zB := HBW.out
    have t5 : Below B W w4 := (HB1.out.mono zB).trans (HD.out.mono (by omega))
    have HT5 := Lib.hid t5
    have HR5 := Lib.hid (HR.out.low t5 HRK.out.1)
    have HB5 := Lib.hid (HB.out.low t5 HRK.out.2.1 HRK.out.2.2)
    have HZ5 := Lib.hid t5.size
    have h0' : (n == 0) = false := by simp [h0]
    clear t5 HD r0 z1 zB
    go_wp2_with (first | (go_at_call 41; refine (rmust_not k s bs _ HR5.out HB5.out).mono ?_; rintro e w6 ⟨rfl, hM, hO⟩; have HM := Lib.hid hM; have HO := Lib.hid hO; clear hM hO))
    exact ⟨rfl, Or.inr ⟨by simp [h0], rfl, HM.out, (OffB.ofBelow HT5.out).trans (OffB.ofOff HO.out (Nat.le_trans HBW.out HZ5.out))⟩⟩
end Go.Proofs.Ytedgecijgjcfeaa

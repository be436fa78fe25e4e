/-
cuts: what Load reads: get.
-/
import Derived.Test.YtbnapbjmffajfaaCu19
namespace Go.Proofs.Ytbnapbjmffajfaa
open Go.RowKit
set_option linter.unusedSimpArgs false
set_option linter.unusedVariables false
/-- So many cuts. -/
def cutsT (own other : Int) : Nat → List Nat → List Ct → Sd → Sd → Except Int (List Nat × List Ct × Sd × Sd)
  | 0, q, cs, a, b => .ok (q, cs, a, b)
  | n + 1, q, cs, a, b => match cutT own other q cs a b with
    | .error x => .error x
    | .ok (q', cs', a', b') => cutsT own other n q' cs' a' b'
/-- The rest of a table's bytes, from the number of its cuts on. -/
def restT (own other : Int) (bs : List Nat) : Except Int (List Nat × List Ct × Sd × Sd) :=
  match smallP 20 bs with
  | .error x => .error x
  | .ok (n, q) => match cutsT own other n q [] Sd.zero Sd.zero with
    | .error x => .error x
    | .ok (q', cs, a, b) => stancesT own other q' cs a b
/-- A table of bytes: its homes, and what it has. -/
def tableT (bs : List Nat) : Except Int (Int × Int × List Nat × List Ct × Sd × Sd) :=
  match smallP 12 bs with
  | .error x => .error x
  | .ok (o, q) => match smallP 12 q with
    | .error x => .error x
    | .ok (p, q2) => if mayT (o : Nat) (p : Nat) then match restT (o : Nat) (p : Nat) q2 with
        | .error x => .error x
        | .ok z => .ok ((o : Nat), (p : Nat), z)
      else .error 3
theorem OffB.less {B C s : Nat} {a b : World} (h : OffB C s a b) (hB : B ≤ C) : OffB B s a b := ⟨h.os, h.tape, h.output, h.size, fun i hi hs => h.block i (Nat.lt_of_lt_of_le hi hB) hs⟩
theorem stancesT_len {own other : Int} {bs q : List Nat} {cs cs' : List Ct} {a b a' b' : Sd} (hl : cs.length ≤ 20) (h : stancesT own other bs cs a b = .ok (q, cs', a', b')) : cs'.length ≤ 20 := by
  unfold stancesT at h
  split at h
  · cases h
  · split at h
    · cases h
    · split at h
      · cases h
      · split at h
        · cases h
        · split at h
          · rename_i hq
            injection h with h
            injection h with _ h
            injection h with h _
            subst h
            omega
          · cases h
/-- What get gives: a new table. -/
def EndG (L k s : Nat) (W : World) (P : Except Int (Int × Int × List Nat × List Ct × Sd × Sd)) (e : Ending) (W' : World) : Prop :=
  match P with
  | .ok (o, p, q, cs, a, b) => ∃ W0 t, Off s W W0 ∧ e = .returned (.pointer (some ⟨t, 0, none⟩)) ∧ o ≠ 0 ∧ cs.length ≤ 20 ∧ TR L W0.heap.size k s t o p W0 q cs a b W'
  | .error x => e = .panicked [{ v := flt s, recovered := false }] ∧ Met' W' s x ∧ OffB W.heap.size s W W'
theorem cutT_succ {own other : Int} {n : Nat} {q : List Nat} {cs : List Ct} {a b : Sd} : cutsT own other (n + 1) q cs a b = match cutT own other q cs a b with
    | .error x => .error x
    | .ok (q', cs', a', b') => cutsT own other n q' cs' a' b' := rfl
set_option maxHeartbeats 8000000 in
set_option maxRecDepth 20000 in
theorem get_any {L k s : Nat} {W : World} {bs : List Nat} (hr : Rdr W k s) (h : RdB L W s bs) (hk : k < W.heap.size) (hL : L ≤ W.heap.size) :
    Calls Try.prog 32 #[.pointer (some ⟨k, 0, none⟩)] W fun e W' => EndG L k s W (tableT bs) e W' := by
  have hs := h.lt
  have HK := Lib.hid (And.intro hk (And.intro hs hL))
  have HR0 := Lib.hid hr
  have HB0 := Lib.hid h
  obtain ⟨R, hR⟩ : ∃ R, R = tableT bs := ⟨_, rfl⟩
  rw [← hR]
  have hE := hR
  unfold tableT at hE
  clear hR hr h hk hs hL
  have HD := Lib.hid (rsmall_any k s bs 12 W HR0.out HB0.out (by omega))
  go_enter Try.func32, Try.ntmps32
  cases hv : smallP 12 bs with
  | error x =>
    rw [hv] at hE HD
    have HE2 := Lib.hid hE
    clear hE hv
    go_wp2_with (first | (go_at_call 40; refine HD.out.mono ?_; rintro e w9 ⟨hO, rfl, hM⟩; have HO := Lib.hid hO; have HM := Lib.hid hM; clear hM hO))
    exact ⟨rfl, by rw [HE2.out]; exact ⟨rfl, HM.out, OffB.ofOff HO.out (Nat.le_refl _)⟩⟩
  | ok z =>
    obtain ⟨o, q⟩ := z
    rw [hv] at hE HD
    dsimp only at hE
    have HEH := Lib.hid hE
    clear hE hv
    go_upto_region 2 with (first | (go_at_call 40; refine HD.out.mono ?_; rintro e w1 ⟨hO, rfl, hM⟩; have HO1 := Lib.hid hO; have HB1 := Lib.hid hM; have HR1 := Lib.hid (HR0.out.off hO); clear hM hO))
    clear HD
    have HD := Lib.hid (rsmall_any k s q 12 w1 HR1.out HB1.out (by omega))
    have hE := HEH.out
    clear HEH
    cases hv : smallP 12 q with
    | error x =>
      rw [hv] at hE HD
      have HE2 := Lib.hid hE
      clear hE hv
      go_wp2_with (first | (go_at_call 40; refine HD.out.mono ?_; rintro e w9 ⟨hO, rfl, hM⟩; have HO := Lib.hid (HO1.out.trans hO); have HM := Lib.hid hM; clear hM hO))
      exact ⟨rfl, by rw [HE2.out]; exact ⟨rfl, HM.out, OffB.ofOff HO.out (Nat.le_refl _)⟩⟩
    | ok z =>
      obtain ⟨p, q2⟩ := z
      rw [hv] at hE HD
      dsimp only at hE
      have HEH := Lib.hid hE
      clear hE hv
      go_upto_region 3 with (first | (go_at_call 40; refine HD.out.mono ?_; rintro e w2 ⟨hO, rfl, hM⟩; have HO2 := Lib.hid (HO1.out.trans hO); have HB2 := Lib.hid hM; have HR2 := Lib.hid (HR1.out.off hO); clear hM hO))
      clear HD HO1 HB1 HR1 HR0 HB0
      obtain ⟨own, hown⟩ : ∃ own : Int, own = ((o : Nat) : Int) := ⟨_, rfl⟩
      obtain ⟨other, hother⟩ : ∃ other : Int, other = ((p : Nat) : Int) := ⟨_, rfl⟩
      rw [← hown, ← hother] at HEH ⊢
      clear hown hother
      cases hm : mayT own other with
      | false =>
        have hE := HEH.out
        rw [hm] at hE
        have HE2 := Lib.hid hE
        have HD := Lib.hid (new_bad w2 own other hm)
        clear hE HEH hm
        go_wp2_with (first | (go_at_call 6; refine HD.out.mono ?_; rintro e w3 ⟨rfl, rfl⟩) | (go_at_call 41; refine (rmust_not k s _ _ HR2.out HB2.out).mono ?_; rintro e w9 ⟨rfl, hM, hO⟩; have HO := Lib.hid (HO2.out.trans hO); have HM := Lib.hid hM; clear hM hO))
        exact ⟨rfl, by rw [HE2.out]; exact ⟨rfl, HM.out, OffB.ofOff HO.out (Nat.le_refl _)⟩⟩
      | true =>
        have hE := HEH.out
        rw [hm, if_pos rfl] at hE
        have HE := Lib.hid hE
        have HD := Lib.hid (new_ok w2 own other hm)
        have HM1 := Lib.hid (show own ≠ 0 from by unfold mayT at hm; simp at hm; omega)
        clear hE HEH hm
        go_upto_region 4 with (first | (go_at_call 6; refine HD.out.mono ?_; rintro e w3 ⟨rfl, hT, hb, hz⟩; have HT := Lib.hid hT; have HBE := Lib.hid hb; clear hT hb hz))
        obtain ⟨B, hB⟩ : ∃ B, B = w2.heap.size := ⟨_, rfl⟩
        have HBW := Lib.hid (show W.heap.size ≤ B from by rw [hB]; exact HO2.out.size)
        have HBE2 := Lib.hid hB
        have H3 := Lib.hid (show TR L B k s B own other w2 q2 [] Sd.zero Sd.zero w3 from by
          rw [hB]
          exact ⟨_, _, HT.out, OffB.ofBelow HBE.out, HR2.out.below HBE.out, HB2.out.below HBE.out⟩)
        rw [← hB]
        clear hB HT HBE HR2 HB2 HD
        have HKB := Lib.hid (And.intro (show k < B by have := HK.out.1; have := HBW.out; omega) (And.intro (show s < B by have := HK.out.2.1; have := HBW.out; omega) (show L ≤ B by have := HK.out.2.2; have := HBW.out; omega)))
        have HD := Lib.hid (tr_small H3.out HKB.out.2.1 20 (by omega))
        have hE := HE.out
        unfold restT at hE
        clear HE
        cases hv : smallP 20 q2 with
        | error x =>
          rw [hv] at hE HD
          have HE2 := Lib.hid hE
          clear hE hv
          go_wp2_with (first | (go_at_call 41; refine (tr_yes H3.out).mono ?_; rintro e w9 ⟨rfl, rfl⟩) | (go_at_call 40; refine HD.out.mono ?_; rintro e w9 ⟨rfl, hM⟩; have HM := Lib.hid hM; clear hM))
          exact ⟨rfl, by rw [HE2.out]; exact ⟨rfl, HM.out.1, (OffB.ofOff HO2.out (Nat.le_refl _)).trans (HM.out.2.less HBW.out)⟩⟩
        | ok z =>
          obtain ⟨n, q3⟩ := z
          rw [hv] at hE HD
          dsimp only at hE
          have HN := Lib.hid (small_ok hv).2
          have HE := Lib.hid hE
          clear hE hv
          go_upto_region 6 with (first | (go_at_call 41; refine (tr_yes H3.out).mono ?_; rintro e w9 ⟨rfl, rfl⟩) | (go_at_call 40; refine HD.out.mono ?_; rintro e w4 ⟨rfl, hM⟩; have H4 := Lib.hid hM; clear hM))
          clear H3 HD
          obtain ⟨C, hC⟩ : ∃ C, C = cutsT own other n q3 [] Sd.zero Sd.zero := ⟨_, rfl⟩
          rw [← hC] at HE
          go_loopw [23] (fun i wr => ∃ j : Nat, j ≤ n ∧ i = .int .i64 j ∧ ∃ q cs a b, TR L B k s B own other w2 q cs a b wr ∧ cs.length ≤ 20 ∧ Hid (C = cutsT own other (n - j) q cs a b)) (fun i _ => n - (intOf i).toNat)
          case atStart => exact ⟨0, Nat.zero_le _, rfl, q3, [], Sd.zero, Sd.zero, H4.out, by simp, Lib.hid hC⟩
          case round =>
            obtain ⟨j, hj, rfl, q5, cs, a, b, hT, hl, hC5⟩ := hrel
            have HTR := Lib.hid hT
            have HL := Lib.hid hl
            clear hT hl H4 hC
            by_cases hlt : j < n
            · have HC := Lib.hid (getcut_any HTR.out HM1.out HL.out HKB.out.1 HKB.out.2.1 HKB.out.2.2)
              have hC6 := hC5.out
              rw [show n - j = (n - (j + 1)) + 1 by omega, cutT_succ] at hC6
              cases hc : cutT own other q5 cs a b with
              | error x =>
                rw [hc] at hC6 HC
                have HE2 := Lib.hid (show R = .error x from by rw [HE.out, hC6])
                clear hC6 hc hC5
                have hn20 : n ≤ 20 := by have := HN.out; omega
                go_wp2_with (first | (go_at_call 42; refine HC.out.mono ?_; rintro e w9 ⟨rfl, hM⟩; have HM := Lib.hid hM; clear hM))
                exact ⟨rfl, by rw [HE2.out]; exact ⟨rfl, HM.out.1, (OffB.ofOff HO2.out (Nat.le_refl _)).trans (HM.out.2.less HBW.out)⟩⟩
              | ok z =>
                obtain ⟨q6, cs6, a6, b6⟩ := z
                have HL6 := Lib.hid (cutT_len hc)
                rw [hc] at hC6 HC
                dsimp only at hC6
                have HC6 := Lib.hid hC6
                clear hC6 hc hC5
                have hn20 : n ≤ 20 := by have := HN.out; omega
                go_wp2_with (first | (go_at_call 42; refine HC.out.mono ?_; rintro e w5 ⟨rfl, hM⟩; have HM := Lib.hid hM; clear hM))
                go_roundw
                case rel => exact ⟨j + 1, by omega, by go_num, q6, cs6, a6, b6, HM.out, HL6.out, HC6⟩
                case measure => simp [intOf]; omega
            · obtain rfl : j = n := by omega
              have hn20 : j ≤ 20 := by have := HN.out; omega
              have hE := HE.out
              rw [hC5.out, show j - j = 0 by omega] at hE
              unfold cutsT at hE
              dsimp only at hE
              have HC := Lib.hid (getstances_any HTR.out HM1.out HL.out HKB.out.1 HKB.out.2.1 HKB.out.2.2)
              clear hC5 hlt hj HE
              cases hc : stancesT own other q5 cs a b with
              | error x =>
                rw [hc] at hE HC
                have HE2 := Lib.hid hE
                clear hE hc
                go_wp2_with (first | (go_at_call 43; refine HC.out.mono ?_; rintro e w9 ⟨rfl, hM⟩; have HM := Lib.hid hM; clear hM))
                exact ⟨rfl, by rw [HE2.out]; exact ⟨rfl, HM.out.1, (OffB.ofOff HO2.out (Nat.le_refl _)).trans (HM.out.2.less HBW.out)⟩⟩
              | ok z =>
                obtain ⟨q6, cs6, a6, b6⟩ := z
                have HL6 := Lib.hid (stancesT_len HL.out hc)
                rw [hc] at hE HC
                have HE2 := Lib.hid hE
                clear hE hc
                go_wp2_with (first | (go_at_call 43; refine HC.out.mono ?_; rintro e w5 ⟨rfl, hM⟩; have HM := Lib.hid hM; clear hM))
                exact ⟨rfl, .pointer (some ⟨B, 0, none⟩), by simp [results, Try.results32, go_sem], by rw [HE2.out]; exact ⟨w2, B, HO2.out, rfl, HM1.out, HL6.out, by rw [← HBE2.out]; exact HM.out⟩⟩
end Go.Proofs.Ytbnapbjmffajfaa

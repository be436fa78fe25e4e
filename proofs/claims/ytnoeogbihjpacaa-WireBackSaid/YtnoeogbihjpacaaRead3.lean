/-
wire: num, small.
-/
import Derived.Test.YtnoeogbihjpacaaRead2
namespace Go.Proofs.Ytnoeogbihjpacaa
open Go.RowKit
variable {L : Nat}

def restLen (s : Nat) (W : World) : Nat := match W.cell? ⟨s, 0, none⟩ with
  | some (.slice _ n _) => n
  | _ => 0
theorem RdB.restLen {W : World} {s : Nat} {bs : List Nat} (h : RdB L W s bs) : restLen s W = bs.length := by
  obtain ⟨A, c, hR, _, _⟩ := h
  unfold Go.Proofs.Ytnoeogbihjpacaa.restLen
  rw [hR.1]
attribute [irreducible] restLen

theorem numP_follow (n : Nat) (t : List Nat) : numP true n (128 :: t) = .error 3 := by simp [numP]
theorem numP_big {b : Bool} {n x : Nat} {t : List Nat} (h : (b && x == 128) = false) (hn : 144115188075855871 < n) : numP b n (x :: t) = .error 3 := by simp [numP, h, hn]
theorem numP_last {b : Bool} {n x : Nat} {t : List Nat} (h : (b && x == 128) = false) (hn : ¬ 144115188075855871 < n) (hx : x < 128) : numP b n (x :: t) = .ok (n * 128 + x % 128, t) := by simp [numP, h, hn, hx]
theorem numP_next {b : Bool} {n x : Nat} {t : List Nat} (h : (b && x == 128) = false) (hn : ¬ 144115188075855871 < n) (hx : ¬ x < 128) : numP b n (x :: t) = numP false (n * 128 + x % 128) t := by simp [numP, h, hn, hx]

theorem wret_u64 {a b : Int} (h : a = b) : Ending.returned (.int .u64 a) = .returned (.int .u64 b) := by rw [h]

set_option maxHeartbeats 1000000 in
theorem num_any (s : Nat) (bs : List Nat) (W : World) (h : RdB L W s bs) :
    Calls Try.prog 73 #[.pointer (some ⟨s, 0, none⟩)] W fun e W' => Ends L s W (fun v => .int .u64 (v : Nat)) (numP true 0 bs) e W' := by
  have HB := Lib.hid h
  clear h
  go_enter Try.func73, Try.ntmps73
  go_wp2_with fail
  go_loopw [3, 4] (fun n f wr => ∃ (nv : Nat) (b : Bool) (bs' : List Nat), n = .int .u64 (nv : Nat) ∧ f = .bool b ∧ Hid (numP b nv bs' = numP true 0 bs) ∧ Hid (RdB L wr s bs') ∧ Off s W wr) (fun _ _ wr => restLen s wr)
  case atStart => exact ⟨0, true, bs, rfl, rfl, Lib.hid rfl, HB, Off.refl s W⟩
  case round =>
    obtain ⟨nv, b, bs', rfl, rfl, HP, HR, HO⟩ := hrel
    clear HB
    cases bs' with
    | nil =>
      go_wp2_with (go_at_call 75; refine (take_none s _ HR.out 1 (by omega)).mono ?_; rintro e w1 ⟨rfl, hM, hO1⟩)
      exact ⟨rfl, HO.trans hO1, by rw [← HP.out]; exact ⟨rfl, hM⟩⟩
    | cons x t =>
      by_cases h8 : (b && x == 128) = true
      · obtain ⟨rfl, hx⟩ := Bool.and_eq_true_iff.1 h8
        obtain rfl : x = 128 := by simpa using hx
        clear h8 hx
        go_wp2_with (first | (go_at_call 75; refine (take_one s _ t _ HR.out).mono ?_; rintro e w1 ⟨b, p, c, rfl, hc, hcell, hB1, hO1⟩; have HB1 := Lib.hid hB1; clear hB1) | (go_at_call 74; (with_reducible refine (must_yes s _).mono ?_); rintro e w2 ⟨rfl, rfl⟩) | (go_at_call 74; (with_reducible refine (must_not s t _ HB1.out).mono ?_); rintro e w2 ⟨rfl, hM, hO2⟩))
        exact ⟨rfl, (HO.trans hO1).trans hO2, by rw [← HP.out, numP_follow]; exact ⟨rfl, hM⟩⟩
      · have h8' : (b && x == 128) = false := by simpa using h8
        have H8 := Lib.hid h8'
        clear h8
        have hf : b = false ∨ (b = true ∧ ((x : Int) != 128) = true) := by
          cases b with
          | false => left; rfl
          | true => right; refine ⟨rfl, ?_⟩; simp at h8' ⊢; omega
        clear h8'
        by_cases hn : 144115188075855871 < nv
        · have hn' : decide ((nv : Int) ≤ 144115188075855871) = false := by simp; omega
          have HN := Lib.hid hn
          clear hn
          rcases hf with rfl | ⟨rfl, hx⟩
          all_goals
            go_wp2_with (first | (go_at_call 75; refine (take_one s _ t _ HR.out).mono ?_; rintro e w1 ⟨b, p, c, rfl, hc, hcell, hB1, hO1⟩; have HB1 := Lib.hid hB1; clear hB1) | (go_at_call 74; (with_reducible refine (must_yes s _).mono ?_); rintro e w2 ⟨rfl, rfl⟩) | (go_at_call 74; (with_reducible refine (must_not s t _ HB1.out).mono ?_); rintro e w2 ⟨rfl, hM, hO2⟩))
            exact ⟨rfl, (HO.trans hO1).trans hO2, by rw [← HP.out, numP_big H8.out HN.out]; exact ⟨rfl, hM⟩⟩
        · have hn' : decide ((nv : Int) ≤ 144115188075855871) = true := by simp; omega
          have HN := Lib.hid hn
          have e1 : IntKind.u64.wrap ((nv : Int) * 128) = (nv : Int) * 128 := by rw [IntKind.wrap_u64]; omega
          have e2 : IntKind.u64.wrap ((nv : Int) * 128 + (x : Int) % 128) = (nv : Int) * 128 + (x : Int) % 128 := by rw [IntKind.wrap_u64]; omega
          have e3 : IntKind.u64.wrap ((x : Int) % 128) = (x : Int) % 128 := by rw [IntKind.wrap_u64]; omega
          have e4 : IntKind.u8.wrap ((x : Int) % 128) = (x : Int) % 128 := by rw [IntKind.wrap_u8]; omega
          clear hn
          by_cases hx128 : x < 128
          · have hx' : decide ((x : Int) < 128) = true := by simp; omega
            have HX := Lib.hid hx128
            clear hx128
            rcases hf with rfl | ⟨rfl, hx⟩
            all_goals
              go_wp2_with (first | (go_at_call 75; refine (take_one s _ t _ HR.out).mono ?_; rintro e w1 ⟨b, p, c, rfl, hc, hcell, hB1, hO1⟩; have HB1 := Lib.hid hB1; clear hB1) | (go_at_call 74; (with_reducible refine (must_yes s _).mono ?_); rintro e w2 ⟨rfl, rfl⟩) | (go_at_call 74; (with_reducible refine (must_not s t _ HB1.out).mono ?_); rintro e w2 ⟨rfl, hM, hO2⟩))
              go_ret
              exact ⟨HO.trans hO1, by rw [← HP.out, numP_last H8.out HN.out HX.out]; exact ⟨wret_u64 (by omega), HB1.out⟩⟩
          · have hx' : decide ((x : Int) < 128) = false := by simp; omega
            have HX := Lib.hid hx128
            clear hx128
            rcases hf with rfl | ⟨rfl, hx⟩
            all_goals
              go_wp2_with (first | (go_at_call 75; refine (take_one s _ t _ HR.out).mono ?_; rintro e w1 ⟨b, p, c, rfl, hc, hcell, hB1, hO1⟩; have HB1 := Lib.hid hB1; clear hB1) | (go_at_call 74; (with_reducible refine (must_yes s _).mono ?_); rintro e w2 ⟨rfl, rfl⟩) | (go_at_call 74; (with_reducible refine (must_not s t _ HB1.out).mono ?_); rintro e w2 ⟨rfl, hM, hO2⟩))
              go_roundw
              case rel => exact ⟨_, false, t, rfl, rfl, Lib.hid ((numP_next H8.out HN.out HX.out).symm.trans HP.out), HB1, HO.trans hO1⟩
              case measure => rw [HB1.out.restLen, HR.out.restLen]; simp

/-- What a small number's bytes tell. -/
def smallP (most : Int) (bs : List Nat) : Except Int (Nat × List Nat) :=
  match numP true 0 bs with
  | .ok (v, t) => if 0 ≤ most ∧ (v : Int) ≤ most then .ok (v, t) else .error 3
  | .error x => .error x

theorem numP_lt : ∀ (bs : List Nat) (b : Bool) (n : Nat) (v : Nat) (t : List Nat), numP b n bs = .ok (v, t) → v < 18446744073709551616 := by
  intro bs
  induction bs with
  | nil => intro b n v t h; simp [numP] at h
  | cons x l ih =>
    intro b n v t h
    unfold numP at h
    split at h
    · cases h
    · split at h
      · cases h
      · split at h
        · cases h; omega
        · exact ih _ _ _ _ h

theorem small_any (s : Nat) (bs : List Nat) (most : Int) (W : World) (h : RdB L W s bs) (hm : most ≤ 9223372036854775807) :
    Calls Try.prog 76 #[.pointer (some ⟨s, 0, none⟩), .int .i64 most] W fun e W' => Ends L s W (fun v => .int .i64 (v : Nat)) (smallP most bs) e W' := by
  have HB := Lib.hid h
  have HS := Lib.hid (show smallP most bs = match numP true 0 bs with
    | .ok (v, t) => if 0 ≤ most ∧ (v : Int) ≤ most then .ok (v, t) else .error 3
    | .error x => .error x from rfl)
  have HN := Lib.hid (num_any s bs W h)
  have HL := Lib.hid (numP_lt bs true 0)
  clear h
  obtain ⟨r, hr⟩ : ∃ r, r = numP true 0 bs := ⟨_, rfl⟩
  rw [← hr] at HS HN HL
  clear hr
  match r with
  | .error x =>
    go_enter Try.func76, Try.ntmps76
    go_wp2_with (go_at_call 73; refine HN.out.mono ?_; rintro e w1 ⟨hO, rfl, hM⟩)
    exact ⟨rfl, hO, by rw [HS.out]; exact ⟨rfl, hM⟩⟩
  | .ok (v, t) =>
    have hv := HL.out v t rfl
    clear HL
    by_cases h0 : 0 ≤ most
    · have hw : IntKind.u64.wrap most = most := by rw [IntKind.wrap_u64]; omega
      by_cases hle : (v : Int) ≤ most
      · have hle' : decide ((v : Int) ≤ most) = true := by simpa using hle
        have HS' := Lib.hid (HS.out.trans (if_pos ⟨h0, hle⟩))
        have hwv : IntKind.i64.wrap (v : Int) = v := by rw [IntKind.wrap_i64]; omega
        clear hle HS hv
        go_enter Try.func76, Try.ntmps76
        go_wp2_with (first | (go_at_call 73; refine HN.out.mono ?_; rintro e w1 ⟨hO, rfl, hB⟩; have HB1 := Lib.hid hB; clear hB) | (go_at_call 74; (with_reducible refine (must_yes s _).mono ?_); rintro e w2 ⟨rfl, rfl⟩))
        go_ret
        exact ⟨hO, by rw [HS'.out]; exact ⟨rfl, HB1.out⟩⟩
      · have hle' : decide ((v : Int) ≤ most) = false := by simpa using hle
        have HS' := Lib.hid (HS.out.trans (if_neg (fun h => hle h.2)))
        clear hle HS hv
        go_enter Try.func76, Try.ntmps76
        go_wp2_with (first | (go_at_call 73; refine HN.out.mono ?_; rintro e w1 ⟨hO, rfl, hB⟩; have HB1 := Lib.hid hB; clear hB) | (go_at_call 74; (with_reducible refine (must_not s t _ HB1.out).mono ?_); rintro e w2 ⟨rfl, hM, hO2⟩))
        exact ⟨rfl, hO.trans hO2, by rw [HS'.out]; exact ⟨rfl, hM⟩⟩
    · have HS' := Lib.hid (HS.out.trans (if_neg (fun h => h0 h.1)))
      have h0' : decide (0 ≤ most) = false := by simpa using h0
      clear h0 HS hv
      go_enter Try.func76, Try.ntmps76
      go_wp2_with (first | (go_at_call 73; refine HN.out.mono ?_; rintro e w1 ⟨hO, rfl, hB⟩; have HB1 := Lib.hid hB; clear hB) | (go_at_call 74; (with_reducible refine (must_not s t _ HB1.out).mono ?_); rintro e w2 ⟨rfl, hM, hO2⟩))
      exact ⟨rfl, hO.trans hO2, by rw [HS'.out]; exact ⟨rfl, hM⟩⟩
end Go.Proofs.Ytnoeogbihjpacaa

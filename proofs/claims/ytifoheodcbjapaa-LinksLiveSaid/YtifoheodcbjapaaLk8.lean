/-
link: what Get reads: getNext, getText.
-/
import Derived.Test.YtifoheodcbjapaaLk7
import Derived.Test.YtifoheodcbjapaaRead6
namespace Go.Proofs.Ytifoheodcbjapaa
open Go.RowKit
set_option linter.unusedSimpArgs false
set_option linter.unusedVariables false
namespace Lk
/-- The number of a next text. -/
def nextP (bs : List Nat) : Except Int (Nat × List Nat) :=
  match numP true 0 bs with
  | .ok (n, t) => if 1 ≤ n ∧ n ≤ 1099511627777 then .ok (n, t) else .error 3
  | .error x => .error x
/-- A text of a link. -/
def textP1 (bs : List Nat) : Except Int (List Nat × List Nat) :=
  match textP 1800 bs with
  | .ok (x, t) => if 1 ≤ x.length then .ok (x, t) else .error 3
  | .error x => .error x
theorem textP_len {most : Int} {bs x t : List Nat} (h : textP most bs = .ok (x, t)) : (x.length : Int) ≤ most ∧ t.length ≤ bs.length := by
  unfold textP at h
  cases h1 : smallP most bs with
  | error y => rw [h1] at h; cases h
  | ok z =>
    obtain ⟨v, r⟩ := z
    rw [h1] at h
    dsimp only at h
    by_cases h2 : v ≤ r.length
    · rw [if_pos h2] at h
      simp only [Except.ok.injEq, Prod.mk.injEq] at h
      obtain ⟨rfl, rfl⟩ := h
      have h3 := smallP_left h1
      have h4 : (v : Int) ≤ most := by
        unfold smallP at h1
        split at h1
        · split at h1
          · rename_i hv; simp only [Except.ok.injEq, Prod.mk.injEq] at h1; obtain ⟨rfl, rfl⟩ := h1; exact hv.2
          · cases h1
        · cases h1
      refine ⟨?_, ?_⟩
      · rw [List.length_take]; omega
      · rw [List.length_drop]; omega
    · rw [if_neg h2] at h; cases h
section
variable {L : Nat}
set_option maxRecDepth 20000 in
theorem getnext_any (k s : Nat) (bs : List Nat) (W : World) (hr : Rdr W k s) (h : RdB L W s bs) :
    Calls Try.prog 84 #[.pointer (some ⟨k, 0, none⟩)] W fun e W' => Ends L s W (fun v => .int .u64 (v : Nat)) (nextP bs) e W' := by
  have HN := Lib.hid (rnum_any k s bs W hr h)
  have HR := Lib.hid hr
  unfold nextP
  obtain ⟨R, hR⟩ : ∃ R, R = numP true 0 bs := ⟨_, rfl⟩
  rw [← hR] at HN ⊢
  clear hR h hr
  match R with
  | .error x =>
    go_enter Try.func84, Try.ntmps84
    go_wp2_with (first | (go_at_call 88; refine HN.out.mono ?_; rintro e w1 ⟨hO, rfl, hM⟩; have HO := Lib.hid hO; have HM := Lib.hid hM; clear hO hM))
    exact ⟨rfl, HO.out, rfl, HM.out⟩
  | .ok (n, t) =>
    by_cases hok : 1 ≤ n ∧ n ≤ 1099511627777
    · have g1 : (1 : Int) ≤ (n : Nat) := by omega
      have g2 : (n : Int) ≤ 1099511627777 := by omega
      dsimp only
      rw [if_pos hok]
      clear hok
      go_enter Try.func84, Try.ntmps84
      go_wp2_with (first | (go_at_call 88; refine HN.out.mono ?_; rintro e w1 ⟨hO, rfl, hB⟩; have HO := Lib.hid hO; have HB := Lib.hid hB; clear hO hB) | (go_at_call 75; refine (rmust_yes k s t _ (HR.out.off HO.out) HB.out).mono ?_; rintro e w2 ⟨rfl, rfl⟩))
      go_ret
      exact ⟨HO.out, rfl, HB.out⟩
    · dsimp only
      rw [if_neg hok]
      have hor : n = 0 ∨ ((1 : Int) ≤ (n : Nat) ∧ decide ((n : Int) ≤ 1099511627777) = false) := by
        by_cases h0 : n = 0
        · exact Or.inl h0
        · exact Or.inr ⟨by omega, decide_eq_false (by omega)⟩
      clear hok
      rcases hor with rfl | ⟨g1, g2⟩
      all_goals
        go_enter Try.func84, Try.ntmps84
        go_wp2_with (first | (go_at_call 88; refine HN.out.mono ?_; rintro e w1 ⟨hO, rfl, hB⟩; have HO := Lib.hid hO; have HB := Lib.hid hB; clear hO hB) | (go_at_call 75; refine (rmust_not k s t _ (HR.out.off HO.out) HB.out).mono ?_; rintro e w2 ⟨rfl, hM, hO2⟩; have HM := Lib.hid hM; have HO2 := Lib.hid hO2; clear hM hO2))
        exact ⟨rfl, HO.out.trans HO2.out, rfl, HM.out⟩
set_option maxRecDepth 20000 in
theorem gettext_any (k s : Nat) (bs : List Nat) (W : World) (hr : Rdr W k s) (h : RdB L W s bs) (hlen : bs.length ≤ 140737488355328) :
    Calls Try.prog 85 #[.pointer (some ⟨k, 0, none⟩)] W fun e W' => EndsT L s W (textP1 bs) e W' := by
  have HN := Lib.hid (rtext_any k s bs 1800 W hr h (by decide) hlen)
  have HR := Lib.hid hr
  have hlen2 := fun x t h => (textP_len (most := 1800) (bs := bs) (x := x) (t := t) h).1
  unfold textP1
  obtain ⟨R, hR⟩ : ∃ R, R = textP 1800 bs := ⟨_, rfl⟩
  rw [← hR] at HN hlen2 ⊢
  clear hR h hr
  match R with
  | .error x =>
    clear hlen hlen2
    go_enter Try.func85, Try.ntmps85
    go_wp2_with (first | (go_at_call 89; refine HN.out.mono ?_; rintro e w1 hE; simp only [EndsT] at hE; obtain ⟨hO, rfl, hM⟩ := hE; have HO := Lib.hid hO; have HM := Lib.hid hM; clear hO hM))
    exact ⟨rfl, HO.out, rfl, HM.out⟩
  | .ok (x, t) =>
    have h2 : x.length ≤ 1800 := by have := hlen2 x t rfl; omega
    have hd : (decide (1 ≤ x.length) && decide (x.length ≤ 1800)) = decide (1 ≤ x.length) := by rw [decide_eq_true h2, Bool.and_true]
    have HT := Lib.hid (fun A c w => by have := istext_any w A x.length c; rw [hd] at this; exact this)
    clear h2 hd hlen hlen2
    by_cases hok : 1 ≤ x.length
    · dsimp only
      rw [if_pos hok]
      rw [decide_eq_true hok] at HT
      clear hok
      go_enter Try.func85, Try.ntmps85
      go_wp2_with (first | (go_at_call 89; refine HN.out.mono ?_; rintro e w1 hE; simp only [EndsT] at hE; obtain ⟨hO, ⟨v, rfl, hw⟩, hB⟩ := hE; obtain ⟨A, c, rfl⟩ := slice_of hw; have HO := Lib.hid hO; have HB := Lib.hid hB; have HW := Lib.hid hw; clear hO hB hw) | (go_at_call 63; refine (HT.out A c _).mono ?_; rintro e w2 ⟨rfl, rfl⟩) | (go_at_call 75; refine (rmust_yes k s t _ (HR.out.off HO.out) HB.out).mono ?_; rintro e w2 ⟨rfl, rfl⟩))
      go_ret
      exact ⟨HO.out, ⟨_, rfl, HW.out⟩, HB.out⟩
    · dsimp only
      rw [if_neg hok]
      rw [decide_eq_false hok] at HT
      clear hok
      go_enter Try.func85, Try.ntmps85
      go_wp2_with (first | (go_at_call 89; refine HN.out.mono ?_; rintro e w1 hE; simp only [EndsT] at hE; obtain ⟨hO, ⟨v, rfl, hw⟩, hB⟩ := hE; obtain ⟨A, c, rfl⟩ := slice_of hw; have HO := Lib.hid hO; have HB := Lib.hid hB; have HW := Lib.hid hw; clear hO hB hw) | (go_at_call 63; refine (HT.out A c _).mono ?_; rintro e w2 ⟨rfl, rfl⟩) | (go_at_call 75; refine (rmust_not k s t _ (HR.out.off HO.out) HB.out).mono ?_; rintro e w2 ⟨rfl, hM, hO2⟩; have HM := Lib.hid hM; have HO2 := Lib.hid hO2; clear hM hO2))
      exact ⟨rfl, HO.out.trans HO2.out, rfl, HM.out⟩
end
end Lk
end Go.Proofs.Ytifoheodcbjapaa

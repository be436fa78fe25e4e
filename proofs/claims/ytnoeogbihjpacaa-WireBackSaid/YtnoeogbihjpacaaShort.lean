/-
WireShort holds: of any two numbers the bytes are from one to ten; of the lesser one they are no more, and, if as many, they are the lesser ones. No condition.
-/
import Derived.Test.YtnoeogbihjpacaaAlive2
import Derived.Test.YtnoeogbihjpacaaOpens
namespace Go.Proofs.Ytnoeogbihjpacaa
open Go.ChangeShapes Go.WideShapes Go.ChangeAt Go.RowKit

theorem encHi_len_le : ∀ (m n : Nat), n ≤ m → (encHi n).length ≤ (encHi m).length := by
  intro m
  induction m using Nat.strongRecOn with
  | _ m ih =>
    intro n h
    by_cases h0 : n = 0
    · subst h0; rw [encHi_zero]; simp
    · rw [encHi_step (n := n) (by omega), encHi_step (n := m) (by omega), List.length_append, List.length_append]
      have := ih (m / 128) (by omega) (n / 128) (by omega)
      simp; omega
theorem enc_len_le {n m : Nat} (h : n ≤ m) : (enc n).length ≤ (enc m).length := by
  have := encHi_len_le (m / 128) (n / 128) (by omega)
  unfold enc; simp; omega
theorem enc_pos (n : Nat) : 1 ≤ (enc n).length := by unfold enc; simp

/-- The lesser of as many bytes. -/
def ltB : List Nat → List Nat → Bool
  | [], [] => false
  | [], _ :: _ => true
  | _ :: _, [] => false
  | x :: a, y :: b => decide (x < y) || (decide (x = y) && ltB a b)
theorem ltB_app : ∀ (a b c d : List Nat), a.length = b.length → ltB a b = true → ltB (a ++ c) (b ++ d) = true
  | [], [], _, _, _, h => by simp [ltB] at h
  | [], _ :: _, _, _, hl, _ => by simp at hl
  | _ :: _, [], _, _, hl, _ => by simp at hl
  | x :: a, y :: b, c, d, hl, h => by
    simp only [ltB, List.cons_append, Bool.or_eq_true, Bool.and_eq_true, decide_eq_true_eq] at h ⊢
    rcases h with h | ⟨h1, h2⟩
    · exact Or.inl h
    · exact Or.inr ⟨h1, ltB_app a b c d (by simpa using hl) h2⟩
theorem ltB_same : ∀ (a c d : List Nat), ltB c d = true → ltB (a ++ c) (a ++ d) = true
  | [], _, _, h => h
  | x :: a, c, d, h => by
    simp only [ltB, List.cons_append, Bool.or_eq_true, Bool.and_eq_true, decide_eq_true_eq]
    exact Or.inr ⟨trivial, ltB_same a c d h⟩
theorem encHi_lt : ∀ (m n : Nat), n < m → (encHi n).length = (encHi m).length → ltB (encHi n) (encHi m) = true := by
  intro m
  induction m using Nat.strongRecOn with
  | _ m ih =>
    intro n h hl
    by_cases h0 : n = 0
    · subst h0
      rw [encHi_zero, encHi_step (n := m) (by omega)] at hl
      simp at hl
    · rw [encHi_step (n := n) (by omega), encHi_step (n := m) (by omega)] at hl ⊢
      simp only [List.length_append, List.length_singleton, Nat.add_right_cancel_iff] at hl
      by_cases he : n / 128 = m / 128
      · rw [he]
        refine ltB_same _ _ _ ?_
        simp [ltB]; omega
      · exact ltB_app _ _ _ _ hl (ih (m / 128) (by omega) (n / 128) (by omega) hl)
theorem enc_lt_lt {n m : Nat} (h : n < m) (hl : (enc n).length = (enc m).length) : ltB (enc n) (enc m) = true := by
  unfold enc at hl ⊢
  simp only [List.length_append, List.length_singleton, Nat.add_right_cancel_iff] at hl
  by_cases he : n / 128 = m / 128
  · rw [he]
    refine ltB_same _ _ _ ?_
    simp [ltB]; omega
  · exact ltB_app _ _ _ _ hl (encHi_lt _ _ (by omega) hl)

theorem bytesLess_ltB : ∀ (a b : List Nat), (∀ x ∈ a, x < 256) → (∀ x ∈ b, x < 256) → ltB a b = true → Op.bytesLess (a.map UInt8.ofNat) (b.map UInt8.ofNat) = true
  | [], [], _, _, h => by simp [ltB] at h
  | [], _ :: _, _, _, _ => by simp [Op.bytesLess]
  | _ :: _, [], _, _, h => by simp [ltB] at h
  | x :: a, y :: b, ha, hb, h => by
    have hx := ha x (by simp)
    have hy := hb y (by simp)
    simp only [ltB, Bool.or_eq_true, Bool.and_eq_true, decide_eq_true_eq] at h
    rw [List.map_cons, List.map_cons, Op.bytesLess]
    rcases h with h | ⟨h1, h2⟩
    · have : UInt8.ofNat x < UInt8.ofNat y := by rw [UInt8.lt_iff_toNat_lt]; simp; omega
      simp [this]
    · subst h1
      have := bytesLess_ltB a b (fun z hz => ha z (by simp [hz])) (fun z hz => hb z (by simp [hz])) h2
      simp [this]
theorem bytes_ltB {a b : List Nat} (ha : ∀ x ∈ a, x < 256) (hb : ∀ x ∈ b, x < 256) (h : ltB a b = true) : Op.bytesLess (bstr a).toList (bstr b).toList = true := by
  rw [ByteArray.toList_eq, ByteArray.toList_eq, bstr_lit, bstr_lit]
  exact bytesLess_ltB a b ha hb h

set_option maxRecDepth 20000 in
set_option maxHeartbeats 8000000 in
theorem short_walk (n m : Nat) (hn : n < 18446744073709551616) (hm : m < 18446744073709551616) (W : World) :
    Calls Try.prog 5 #[.int .u64 (n : Nat), .int .u64 (m : Nat)] W fun e W' => e = .returned (.bool true) ∧ Below W.heap.size W W' := by
  have HN := Lib.hid hn
  have HM := Lib.hid hm
  have HLn := Lib.hid (enc_len n hn)
  have HLm := Lib.hid (enc_len m hm)
  have p1 := enc_pos n
  have p2 := enc_len n hn
  have p3 := enc_pos m
  have p4 := enc_len m hm
  clear hn hm
  obtain ⟨a, ha⟩ : ∃ a, a = enc n := ⟨_, rfl⟩
  obtain ⟨b, hb⟩ : ∃ b, b = enc m := ⟨_, rfl⟩
  have HA := Lib.hid ha
  have HB := Lib.hid hb
  rw [← ha] at p1 p2
  rw [← hb] at p3 p4
  have HLA := Lib.hid (show ∀ x ∈ a, x < 256 by rw [ha]; exact enc_lt n)
  have HLB := Lib.hid (show ∀ x ∈ b, x < 256 by rw [hb]; exact enc_lt m)
  clear ha hb
  go_enter Try.func5, Try.ntmps5
  go_wp2_with fail
  refine (new_any _).mono ?_
  rintro e w1 ⟨rfl, hW1, hb1⟩
  have HW1 := Lib.hid hW1
  have HB1 := Lib.hid hb1
  clear hW1 hb1
  go_wp2_with fail
  refine (wnum_any W.heap.size W.heap.size n [] w1 HW1.out HN.out (by simp)).mono ?_
  rintro e w2 ⟨rfl, hW2, hO2⟩
  rw [List.nil_append, ← HA.out] at hW2
  have HW2 := Lib.hid hW2
  have HB2 := Lib.hid (HB1.out.trans hO2.1)
  clear hW2 hO2 HW1 HB1
  go_wp2_with fail
  refine (bytes_any W.heap.size W.heap.size a w2 HW2.out (by omega)).mono ?_
  rintro e w3 ⟨v3, rfl, hown3, hb3⟩
  obtain ⟨A3, c3, rfl, hc3, hA3, hA3n⟩ := own_byr hown3
  have HS3 := Lib.hid (hA3.src hA3n)
  have HB3 := Lib.hid (HB2.out.trans (hb3.mono HB2.out.size))
  clear hown3 hb3 hc3 hA3 hA3n HW2 HB2
  go_wp2_with fail
  refine (new_any _).mono ?_
  rintro e w4 ⟨rfl, hW4, hb4⟩
  have HW4 := Lib.hid hW4
  have HB4 := Lib.hid hb4
  clear hW4 hb4
  go_wp2_with fail
  refine (wnum_any w3.heap.size w3.heap.size m [] w4 HW4.out HM.out (by simp)).mono ?_
  rintro e w5 ⟨rfl, hW5, hO5⟩
  rw [List.nil_append, ← HB.out] at hW5
  have HW5 := Lib.hid hW5
  have HB5 := Lib.hid (HB4.out.trans hO5.1)
  clear hW5 hO5 HW4 HB4
  go_wp2_with fail
  refine (bytes_any w3.heap.size w3.heap.size b w5 HW5.out (by omega)).mono ?_
  rintro e w6 ⟨v6, rfl, hown6, hb6⟩
  obtain ⟨A6, c6, rfl, hc6, hA6, hA6n⟩ := own_byr hown6
  have hb36 := HB5.out.trans (hb6.mono HB5.out.size)
  have HS6 := Lib.hid (hA6.src hA6n)
  have HS36 := Lib.hid (HS3.out.below hb36)
  have HB6 := Lib.hid (HB3.out.trans (hb36.mono HB3.out.size))
  clear hown6 hb6 hb36 hc6 hA6 hA6n HW5 HB5 HS3 HB3
  by_cases hnm : m ≤ n
  · by_cases hgt : m < n
    · go_wp2_with (go_at_call 14; refine (alive_any _).mono ?_; rintro e w7 ⟨rfl, hb7⟩; have HB7 := Lib.hid (HB6.out.trans (hb7.mono HB6.out.size)); clear hb7)
      go_ret
      exact ⟨rfl, HB7.out⟩
    · obtain rfl : m = n := by omega
      obtain rfl : a = b := HA.out.trans HB.out.symm
      go_wp2_with (go_at_call 14; refine (alive_any _).mono ?_; rintro e w7 ⟨rfl, hb7⟩; have HB7 := Lib.hid (HB6.out.trans (hb7.mono HB6.out.size)); have cv3 := conv_src w7 A3 a.length c3 a (HS36.out.below hb7) rfl HLA.out; have cv6 := conv_src w7 A6 a.length c6 a (HS6.out.below hb7) rfl HLA.out; clear hb7)
      go_ret
      exact ⟨rfl, HB7.out⟩
  · have hle := enc_len_le (n := n) (m := m) (by omega)
    rw [← HA.out, ← HB.out] at hle
    by_cases hlt : a.length < b.length
    · go_wp2_with (go_at_call 14; refine (alive_any _).mono ?_; rintro e w7 ⟨rfl, hb7⟩; have HB7 := Lib.hid (HB6.out.trans (hb7.mono HB6.out.size)); clear hb7)
      go_ret
      exact ⟨rfl, HB7.out⟩
    · have HLT := Lib.hid (enc_lt_lt (n := n) (m := m) (by omega) (by rw [← HA.out, ← HB.out]; omega))
      rw [← HA.out, ← HB.out] at HLT
      go_wp2_with (go_at_call 14; refine (alive_any _).mono ?_; rintro e w7 ⟨rfl, hb7⟩; have HB7 := Lib.hid (HB6.out.trans (hb7.mono HB6.out.size)); have cv3 := conv_src w7 A3 a.length c3 a (HS36.out.below hb7) rfl HLA.out; have cv6 := conv_src w7 A6 b.length c6 b (HS6.out.below hb7) rfl HLB.out; clear hb7)
      rw [bytes_ltB HLA.out HLB.out HLT.out]
      go_ret
      exact ⟨rfl, HB7.out⟩


set_option maxRecDepth 100000 in
theorem short_lifted (os : Os) (started : os.Started) (H : Type) (enc : TypeId × Value → H) :
    ReturnsInHanded {} Try.checked os 5 .any (Rows.wireShortSpec.pre6 enc Try.prog Try.f5 Rows.wireShortRow.domain false) (Rows.wireShortSpec.post enc Try.prog Try.f5 false true false false) := by
  refine law_lift (C := Try.checked) own_knob started (by kernel_rfl) Try.func5 rfl Try.underlying4 laid_out (by kernel_rfl) rfl ?_
    (ChangeSpec.witness6 (enc := enc) (C := Try.checked) false ⟨#[], #[.int .u64 0, .int .u64 0], []⟩ 8 (by kernel_rfl) (by kernel_rfl) (by kernel_rfl) (by kernel_rfl)) ?_
  · intro ds hds
    match ds, hds with
    | [_, _], _ => rfl
  intro W base args ds ps hval hA hlt hsz
  rw [Try.params5] at hA hval
  obtain ⟨v0, vs0, d0, ds0, p0, q0, hargs, rfl, rfl, h0, r0⟩ := trodAll_cons hA
  obtain ⟨v1, vs1, d1, ds1, p1, q1, rfl, rfl, rfl, h1, r1⟩ := trodAll_cons r0
  obtain ⟨rfl, rfl, rfl⟩ := trodAll_nil r1
  obtain rfl : args = #[v0, v1] := by cases args; simp_all
  obtain ⟨a0, rfl, rfl, rfl, w0⟩ := open_int Try.underlying27 (hval 0 27 v0 rfl rfl) h0
  obtain ⟨a1, rfl, rfl, rfl, w1⟩ := open_int Try.underlying27 (hval 1 27 v1 rfl rfl) h1
  exact by
    obtain ⟨n0, rfl, b0⟩ := bound_u64 w0
    obtain ⟨n1, rfl, b1⟩ := bound_u64 w1
    exact short_walk n0 n1 b0 b1 W

theorem short_holds : Rows.WireShortSaid :=
  OpenClaim.holds_of_wide 5 Try.f5 rfl rfl rfl rfl rfl rfl rfl ⟨rfl, rfl, rfl, rfl, rfl⟩ rfl rfl rfl rfl rfl (by kernel_rfl) Try.func5 (by kernel_rfl)
    (of_decide_eq_true (by kernel_rfl)) (by unfold Func.isWrapper; first | (rw [if_pos (by decide +kernel)]; kernel_rfl) | (rw [if_neg (by decide +kernel)]; exact ⟨rfl, rfl⟩))
    (fun os started H enc _ => short_lifted os started H enc)

end Go.Proofs.Ytnoeogbihjpacaa

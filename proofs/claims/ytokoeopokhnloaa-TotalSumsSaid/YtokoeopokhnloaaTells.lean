/-
TotalTells holds: for every two words and every key, the key, the number of the key, the order, sameness, the join and the kind are the document's. No condition.
-/
import Derived.Test.YtokoeopokhnloaaJoins
namespace Go.Proofs.Ytokoeopokhnloaa
open Go.ChangeShapes Go.WideShapes Go.ChangeAt Go.RowKit

theorem ret_u64 {a b : Int} (h : a = b) : Ending.returned (.int .u64 a) = .returned (.int .u64 b) := by rw [h]
theorem wrap_nat {n : Int} {m : Nat} (h : n = (m : Nat)) (hm : m < 18446744073709551616) : IntKind.u64.wrap n = (m : Nat) := by rw [IntKind.wrap_u64]; omega

set_option maxHeartbeats 400000 in
theorem rkey_any (b : Nat) (w : World) (hb : b < 18446744073709551616) :
    Calls Try.prog 9 #[.float .f64 b] w fun e w' => e = .returned (.int .u64 (Num.key b : Nat)) ∧ w = w' := by
  have cb := call_bits
  have H := Lib.hid hb
  have h3 : (b : Int) < 18446744073709551616 := by omega
  unfold Num.key
  by_cases h : b < 9223372036854775808
  · rw [if_pos h]
    have h2 : (b : Int) < 9223372036854775808 := by omega
    clear hb h
    go_enter Try.func9, Try.ntmps9
    go_wp2
    go_ret
    exact ⟨ret_u64 (by omega), rfl⟩
  · rw [if_neg h]
    have h2 : ¬ (b : Int) < 9223372036854775808 := by omega
    clear hb h
    go_enter Try.func9, Try.ntmps9
    go_wp2
    go_ret
    exact ⟨ret_u64 (by have := H.out; omega), rfl⟩

set_option maxHeartbeats 400000 in
theorem rof_any (b : Nat) (w : World) (hb : b < 18446744073709551616) :
    Calls Try.prog 14 #[.int .u64 b] w fun e w' => e = .returned (.float .f64 (Num.unkey b)) ∧ w = w' := by
  have cf := call_frombits
  have H := Lib.hid hb
  have h3 : (b : Int) < 18446744073709551616 := by omega
  unfold Num.unkey
  by_cases h : b < 9223372036854775808
  · rw [if_pos h]
    have h2 : ¬ (9223372036854775808 : Int) ≤ b := by omega
    clear hb h
    go_enter Try.func14, Try.ntmps14
    go_wp2
    go_ret
    exact ⟨ret_float (by omega), rfl⟩
  · rw [if_neg h]
    have h2 : (9223372036854775808 : Int) ≤ b := by omega
    clear hb h
    go_enter Try.func14, Try.ntmps14
    go_wp2
    go_ret
    exact ⟨ret_float (by omega), rfl⟩

set_option maxHeartbeats 400000 in
theorem rjoin_any (a b : Nat) (w : World) (ha : a < 18446744073709551616) (hb : b < 18446744073709551616) :
    Calls Try.prog 18 #[.float .f64 a, .float .f64 b] w fun e w' => e = .returned (.float .f64 (Num.joinN a b)) ∧ w = w' := by
  by_cases h : Num.key b < Num.key a
  · have hj : Hid (a = Num.joinN a b) := Lib.hid (by unfold Num.joinN; rw [if_neg (by omega)])
    go_enter Try.func18, Try.ntmps18
    go_wp2_with (go_at_call 9; refine (rkey_any _ _ (by assumption)).mono ?_; rintro e w' ⟨rfl, rfl⟩)
    go_ret
    exact ⟨ret_float hj.out, rfl⟩
  · have hj : Hid (b = Num.joinN a b) := Lib.hid (by
      unfold Num.joinN
      by_cases h' : Num.key a < Num.key b
      · rw [if_pos h']
      · rw [if_neg h']; exact (Num.key_inj ha hb (by omega)).symm)
    go_enter Try.func18, Try.ntmps18
    go_wp2_with (go_at_call 9; refine (rkey_any _ _ (by assumption)).mono ?_; rintro e w' ⟨rfl, rfl⟩)
    go_ret
    exact ⟨ret_float hj.out, rfl⟩

set_option maxHeartbeats 400000 in
theorem parts_any (b : Nat) (w : World) (hb : b < 18446744073709551616) :
    Calls Try.prog 26 #[.float .f64 b] w fun e w' => e = .returned (.tuple #[.int .u64 ((b : Int) % 9223372036854775808 / 4503599627370496), .int .u64 ((b : Int) % 4503599627370496)]) ∧ w = w' := by
  have cb := call_bits
  have H := Lib.hid hb
  have h3 : (b : Int) < 18446744073709551616 := by omega
  clear hb
  go_enter Try.func26, Try.ntmps26
  go_wp2
  go_ret2
  have e : (b : Int) % 4503599627370496 = (b : Int) % 9223372036854775808 % 4503599627370496 := by omega
  exact ⟨by rw [e]; rfl, rfl⟩

theorem kind_split (b : Nat) :
    let e : Int := (b : Int) % 9223372036854775808 / 4503599627370496
    let m : Int := (b : Int) % 4503599627370496
    ((e == 2047) = true ∧ decide (0 < m) = true ∧ Num.kindN b = 0) ∨ ((e == 2047) = true ∧ decide (0 < m) = false ∧ Num.kindN b = 1) ∨
      ((e == 2047) = false ∧ (e == 0) = true ∧ (m == 0) = true ∧ Num.kindN b = 2) ∨ ((e == 2047) = false ∧ (e == 0) = true ∧ (m == 0) = false ∧ Num.kindN b = 3) ∨ ((e == 2047) = false ∧ (e == 0) = false ∧ Num.kindN b = 3) ∨ 4294967295 < (b : Int) / 4294967296 := by
  dsimp only
  simp only [beq_iff_eq, beq_eq_false_iff_ne, decide_eq_true_eq, decide_eq_false_iff_not]
  unfold Num.kindN
  by_cases h1 : 9218868437227405312 < b % 9223372036854775808
  · rw [if_pos h1]; omega
  · rw [if_neg h1]
    by_cases h2 : b % 9223372036854775808 = 9218868437227405312
    · rw [if_pos h2]; omega
    · rw [if_neg h2]
      by_cases h4 : b % 9223372036854775808 = 0
      · rw [if_pos h4]; omega
      · rw [if_neg h4]; omega

set_option maxHeartbeats 400000 in
theorem rkind_any (b : Nat) (w : World) (hb : b < 18446744073709551616) :
    Calls Try.prog 20 #[.float .f64 b] w fun e w' => e = .returned (.int .i64 (Num.kindN b : Nat)) ∧ w = w' := by
  have hs := kind_split b
  dsimp only at hs
  rcases hs with ⟨k1, k2, k5⟩ | ⟨k1, k2, k5⟩ | ⟨k1, k2, k3, k5⟩ | ⟨k1, k2, k3, k5⟩ | ⟨k1, k2, k5⟩ | h
  case inr.inr.inr.inr.inr => omega
  all_goals
    have K := Lib.hid k5
    clear k5
    go_enter Try.func20, Try.ntmps20
    go_wp2_with (go_at_call 26; refine (parts_any _ _ (by assumption)).mono ?_; rintro e w' ⟨rfl, rfl⟩)
    go_ret
    exact ⟨by rw [K.out]; rfl, rfl⟩

set_option maxHeartbeats 1000000 in
theorem tells_walk (a b k : Nat) (ha : a < 18446744073709551616) (hb : b < 18446744073709551616) (hc : k < 18446744073709551616) (w : World) :
    Calls Try.prog 3 #[.int .u64 a, .int .u64 b, .int .u64 k] w fun e w' => e = .returned (.bool true) ∧ Below w.heap.size w w' := by
  have cf := fb_any
  have s1 : Num.sameB (Num.unkey k) (Num.unkey k) = true := by unfold Num.sameB; simp
  have s2 : Num.sameB (Num.joinN a b) (Num.joinN a b) = true := by unfold Num.sameB; simp
  have s3 : (Num.sameB a b == ((a : Int) == (b : Int))) = true := by rw [cast_eq]; unfold Num.sameB; simp
  have s4 : (Num.lessB a b == decide (((Num.key a : Nat) : Int) < ((Num.key b : Nat) : Int))) = true := by rw [cast_lt]; unfold Num.lessB; simp
  go_enter Try.func3, Try.ntmps3
  go_wp2_with (first | (go_at_call 15; refine (less_any _ _ _ (by assumption) (by assumption)).mono ?_; rintro e w' ⟨rfl, rfl⟩) | (go_at_call 16; refine (same_any _ _ _).mono ?_; rintro e w' ⟨rfl, rfl⟩) | (go_at_call 11; refine (key_any _ _ (by assumption)).mono ?_; rintro e w' ⟨rfl, rfl⟩) | (go_at_call 13; refine (of_any _ _ (by assumption)).mono ?_; rintro e w' ⟨rfl, rfl⟩) | (go_at_call 12; refine (eqbits_any _ _ _).mono ?_; rintro e w' ⟨rfl, rfl⟩) | (go_at_call 19; refine (kind_any _ _ (by assumption)).mono ?_; rintro e w' ⟨rfl, rfl⟩) | (go_at_call 10; refine (alive_any _).mono ?_; rintro e w' ⟨rfl, hbel⟩) | (go_at_call 17; refine (join_any _ _ _ (by assumption) (by assumption)).mono ?_; rintro e w' ⟨rfl, rfl⟩) | (go_at_call 9; refine (rkey_any _ _ (by assumption)).mono ?_; rintro e w' ⟨rfl, rfl⟩) | (go_at_call 14; refine (rof_any _ _ (by assumption)).mono ?_; rintro e w' ⟨rfl, rfl⟩) | (go_at_call 18; refine (rjoin_any _ _ _ (by assumption) (by assumption)).mono ?_; rintro e w' ⟨rfl, rfl⟩) | (go_at_call 20; refine (rkind_any _ _ (by assumption)).mono ?_; rintro e w' ⟨rfl, rfl⟩))
  go_ret
  exact ⟨rfl, hbel⟩

set_option maxRecDepth 100000 in
theorem tells_lifted (os : Os) (started : os.Started) (H : Type) (enc : TypeId × Value → H) :
    ReturnsInHanded {} Try.checked os 3 .any (Rows.totalTellsSpec.pre6 enc Try.prog Try.f3 Rows.totalTellsRow.domain false) (Rows.totalTellsSpec.post enc Try.prog Try.f3 false true false false) := by
  refine law_lift (C := Try.checked) own_knob started (by kernel_rfl) Try.func3 rfl Try.underlying4 laid_out (by kernel_rfl) rfl ?_
    (ChangeSpec.witness6 (enc := enc) (C := Try.checked) false ⟨#[], #[.int .u64 0, .int .u64 0, .int .u64 0], []⟩ 8 (by kernel_rfl) (by kernel_rfl) (by kernel_rfl) (by kernel_rfl)) ?_
  · intro ds hds
    match ds, hds with
    | [_, _, _], _ => rfl
  intro W base args ds ps hval hA hlt hsz
  rw [Try.params3] at hA hval
  obtain ⟨v0, vs0, d0, ds0, p0, q0, hargs, rfl, rfl, h0, r0⟩ := trodAll_cons hA
  obtain ⟨v1, vs1, d1, ds1, p1, q1, rfl, rfl, rfl, h1, r1⟩ := trodAll_cons r0
  obtain ⟨v2, vs2, d2, ds2, p2, q2, rfl, rfl, rfl, h2, r2⟩ := trodAll_cons r1
  obtain ⟨rfl, rfl, rfl⟩ := trodAll_nil r2
  obtain rfl : args = #[v0, v1, v2] := by cases args; simp_all
  obtain ⟨a0, rfl, rfl, rfl, w0⟩ := open_int Try.underlying22 (hval 0 22 v0 rfl rfl) h0
  obtain ⟨a1, rfl, rfl, rfl, w1⟩ := open_int Try.underlying22 (hval 1 22 v1 rfl rfl) h1
  obtain ⟨a2, rfl, rfl, rfl, w2⟩ := open_int Try.underlying22 (hval 2 22 v2 rfl rfl) h2
  obtain ⟨n0, rfl, b0⟩ := bound_u64 w0
  obtain ⟨n1, rfl, b1⟩ := bound_u64 w1
  obtain ⟨n2, rfl, b2⟩ := bound_u64 w2
  exact tells_walk n0 n1 n2 b0 b1 b2 W

theorem tells_holds : Rows.TotalTellsSaid :=
  OpenClaim.holds_of_wide 3 Try.f3 rfl rfl rfl rfl rfl rfl rfl ⟨rfl, rfl, rfl, rfl, rfl⟩ rfl rfl rfl rfl rfl (by kernel_rfl) Try.func3 (by kernel_rfl)
    (of_decide_eq_true (by kernel_rfl)) (by unfold Func.isWrapper; first | (rw [if_pos (by decide +kernel)]; kernel_rfl) | (rw [if_neg (by decide +kernel)]; exact ⟨rfl, rfl⟩))
    (fun os started H enc _ => tells_lifted os started H enc)
end Go.Proofs.Ytokoeopokhnloaa

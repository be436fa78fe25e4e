/-
The calls of package total, and of what it calls of package math: what each hands back; none of them changes memory.
-/
import Derived.Test.YtokoeopokhnloaaRows
import Derived.Test.YtokoeopokhnloaaNum
import Derived.WalkKit
import Derived.WalkSpells
import Derived.WalkLawsBesides
import Derived.Lib.Hide
import Derived.Deep.QuietTactic
import Derived.BigQuiet
namespace Go.Proofs.Ytokoeopokhnloaa
open Go.RowKit

theorem call_frombits (b : Int) (w : World) : (callFunc 8 #[.int .u64 b]).run Try.prog w = .ok (.value (.float .f64 b.toNat)) w := by
  rw [run_callFunc_extern (f := 8) (fn := Try.f8) (e := Extern.MathFloatBits.float64frombits) (by kernel_rfl) (by kernel_rfl) (by kernel_rfl) (by kernel_rfl) (by kernel_rfl)]
  rfl
theorem call_bits (b : Nat) (w : World) : (callFunc 23 #[.float .f64 b]).run Try.prog w = .ok (.value (.int .u64 b)) w := by
  rw [run_callFunc_extern (f := 23) (fn := Try.f23) (e := Extern.MathFloatBits.float64bits) (by kernel_rfl) (by kernel_rfl) (by kernel_rfl) (by kernel_rfl) (by kernel_rfl)]
  rfl

theorem and_low {b : Nat} (h : b < 9223372036854775808) : (bits .and .u64 (b : Int) 9223372036854775808 == 0) = true := by
  have : bits .and .u64 (b : Int) 9223372036854775808 = 0 := by go_bits2
  rw [this]; rfl
theorem and_high {b : Nat} (h : ¬ b < 9223372036854775808) (h2 : b < 18446744073709551616) : (bits .and .u64 (b : Int) 9223372036854775808 == 0) = false := by
  have : bits .and .u64 (b : Int) 9223372036854775808 = 9223372036854775808 := by go_bits2
  rw [this]; rfl
theorem or_low {b : Nat} (h : b < 9223372036854775808) : bits .or .u64 (b : Int) 9223372036854775808 = ((b + 9223372036854775808 : Nat) : Int) := by go_bits2
theorem xor_all {b : Nat} (h : b < 18446744073709551616) : 18446744073709551615 ^^^ b = 18446744073709551615 - b := by
  apply Nat.eq_of_testBit_eq; intro i
  rw [Nat.testBit_xor, show (18446744073709551615 : Nat) = 2 ^ 64 - 1 from rfl, Nat.testBit_two_pow_sub_one, show 2 ^ 64 - 1 - b = 2 ^ 64 - (b + 1) by omega, Nat.testBit_two_pow_sub_succ h]
  by_cases hi : i < 64
  · simp [hi]
  · simp only [hi, decide_false, Bool.false_and, Bool.false_xor]
    have hp : 2 ^ 64 ≤ 2 ^ i := Nat.pow_le_pow_right (by omega) (by omega)
    exact Nat.testBit_lt_two_pow (by omega)
theorem not_u64 {b : Nat} (h : b < 18446744073709551616) : bits .xor .u64 IntKind.u64.max (b : Int) = ((18446744073709551615 - b : Nat) : Int) := by
  rw [show IntKind.u64.max = ((18446744073709551615 : Nat) : Int) by decide]
  rw [u64_xor_nat _ _ (by omega) (by omega)]
  rw [xor_all h]

set_option maxHeartbeats 400000 in
theorem key_any (b : Nat) (w : World) (hb : b < 18446744073709551616) :
    Calls Try.prog 11 #[.float .f64 b] w fun e w' => e = .returned (.int .u64 (Num.key b : Nat)) ∧ w = w' := by
  have cb := call_bits
  unfold Num.key
  by_cases h : b < 9223372036854775808
  · have h1 := and_low h
    have h2 := Lib.hid (or_low h)
    rw [if_pos h]
    clear h
    go_enter Try.func11, Try.ntmps11
    go_wp2
    go_ret
    exact ⟨by rw [← h2.out]; rfl, rfl⟩
  · have h1 := and_high h hb
    have h2 := Lib.hid (not_u64 hb)
    rw [if_neg h]
    clear h
    go_enter Try.func11, Try.ntmps11
    go_wp2
    go_ret
    exact ⟨by rw [← h2.out]; rfl, rfl⟩


theorem andNot_high {b : Nat} (h : ¬ b < 9223372036854775808) (h2 : b < 18446744073709551616) : bits .andNot .u64 (b : Int) 9223372036854775808 = ((b - 9223372036854775808 : Nat) : Int) := by go_bits2
set_option maxHeartbeats 400000 in
theorem of_any (b : Nat) (w : World) (hb : b < 18446744073709551616) :
    Calls Try.prog 13 #[.int .u64 b] w fun e w' => e = .returned (.float .f64 (Num.unkey b)) ∧ w = w' := by
  have cb := call_frombits
  unfold Num.unkey
  by_cases h : b < 9223372036854775808
  · have h1 := and_low h
    have h2 := Lib.hid (not_u64 hb)
    rw [if_pos h]
    clear h
    go_enter Try.func13, Try.ntmps13
    go_wp2
    go_ret
    exact ⟨by rw [← Int.toNat_natCast (18446744073709551615 - b), ← h2.out]; rfl, rfl⟩
  · have h1 := and_high h hb
    have h2 := Lib.hid (andNot_high h hb)
    rw [if_neg h]
    clear h
    go_enter Try.func13, Try.ntmps13
    go_wp2
    go_ret
    exact ⟨by rw [← Int.toNat_natCast (b - 9223372036854775808), ← h2.out]; rfl, rfl⟩

theorem ret_float {a b : Nat} (h : a = b) : Ending.returned (.float .f64 a) = .returned (.float .f64 b) := by rw [h]
theorem ret_bool {a b : Bool} (h : a = b) : Ending.returned (.bool a) = .returned (.bool b) := by rw [h]
theorem cast_lt (a b : Nat) : decide ((a : Int) < (b : Int)) = decide (a < b) := decide_eq_decide.2 (by omega)
theorem cast_eq (a b : Nat) : ((a : Int) == (b : Int)) = decide (a = b) := by rw [Bool.eq_iff_iff]; simp; omega

set_option maxHeartbeats 400000 in
theorem less_any (a b : Nat) (w : World) (ha : a < 18446744073709551616) (hb : b < 18446744073709551616) :
    Calls Try.prog 15 #[.float .f64 a, .float .f64 b] w fun e w' => e = .returned (.bool (Num.lessB a b)) ∧ w = w' := by
  go_enter Try.func15, Try.ntmps15
  go_wp2_with fail
  refine (key_any a _ ha).mono ?_; rintro e w' ⟨rfl, rfl⟩
  go_wp2_with fail
  refine (key_any b _ hb).mono ?_; rintro e w' ⟨rfl, rfl⟩
  go_wp2_with fail
  go_ret
  exact ⟨rfl, rfl⟩

set_option maxHeartbeats 400000 in
theorem same_any (a b : Nat) (w : World) :
    Calls Try.prog 16 #[.float .f64 a, .float .f64 b] w fun e w' => e = .returned (.bool (Num.sameB a b)) ∧ w = w' := by
  have cb := call_bits
  go_enter Try.func16, Try.ntmps16
  go_wp2
  go_ret
  exact ⟨ret_bool (cast_eq _ _), rfl⟩

set_option maxHeartbeats 400000 in
theorem eqbits_any (a b : Nat) (w : World) :
    Calls Try.prog 12 #[.float .f64 a, .float .f64 b] w fun e w' => e = .returned (.bool (Num.sameB a b)) ∧ w = w' := by
  have cb := call_bits
  go_enter Try.func12, Try.ntmps12
  go_wp2
  go_ret
  exact ⟨ret_bool (cast_eq _ _), rfl⟩

set_option maxHeartbeats 400000 in
theorem join_any (a b : Nat) (w : World) (ha : a < 18446744073709551616) (hb : b < 18446744073709551616) :
    Calls Try.prog 17 #[.float .f64 a, .float .f64 b] w fun e w' => e = .returned (.float .f64 (Num.joinN a b)) ∧ w = w' := by
  unfold Num.joinN
  by_cases h : Num.key a < Num.key b
  · have hl : Num.lessB a b = true := by unfold Num.lessB; simpa using h
    rw [if_pos h]; clear h
    go_enter Try.func17, Try.ntmps17
    go_wp2_with (go_at_call 15; refine (less_any _ _ _ ha hb).mono ?_; rintro e w' ⟨rfl, rfl⟩)
    go_ret
    exact ⟨rfl, rfl⟩
  · have hl : Num.lessB a b = false := by unfold Num.lessB; simpa using h
    rw [if_neg h]; clear h
    go_enter Try.func17, Try.ntmps17
    go_wp2_with (go_at_call 15; refine (less_any _ _ _ ha hb).mono ?_; rintro e w' ⟨rfl, rfl⟩)
    go_ret
    exact ⟨rfl, rfl⟩

set_option maxHeartbeats 400000 in
theorem isnan_any (a : Nat) (w : World) (ha : a < 18446744073709551616) :
    Calls Try.prog 24 #[.float .f64 a] w fun e w' => e = .returned (.bool (Num.isNan a)) ∧ w = w' := by
  have H := Lib.hid (Num.order_self ha)
  go_enter Try.func24, Try.ntmps24
  go_wp2
  go_ret
  exact ⟨ret_bool H.out, rfl⟩

theorem andNot_mod {b : Nat} (h2 : b < 18446744073709551616) : bits .andNot .u64 (b : Int) 9223372036854775808 = ((b % 9223372036854775808 : Nat) : Int) := by
  by_cases h : b < 9223372036854775808
  · have : bits .andNot .u64 (b : Int) 9223372036854775808 = (b : Int) := by go_bits2
    rw [this, Nat.mod_eq_of_lt h]
  · rw [andNot_high h h2, show b - 9223372036854775808 = b % 9223372036854775808 by omega]

set_option maxHeartbeats 400000 in
theorem abs_any (a : Nat) (w : World) (ha : a < 18446744073709551616) :
    Calls Try.prog 30 #[.float .f64 a] w fun e w' => e = .returned (.float .f64 (a % 9223372036854775808)) ∧ w = w' := by
  have H : Hid ((bits .andNot .u64 (a : Int) 9223372036854775808).toNat = a % 9223372036854775808) := Lib.hid (by rw [andNot_mod ha]; exact Int.toNat_natCast _)
  have cb := call_frombits
  have cb' := call_bits
  go_enter Try.func30, Try.ntmps30
  go_wp2
  go_ret
  exact ⟨ret_float H.out, rfl⟩

set_option maxHeartbeats 400000 in
theorem isinf_any (a : Nat) (w : World) (ha : a < 18446744073709551616) :
    Calls Try.prog 25 #[.float .f64 a, .int .i64 0] w fun e w' => e = .returned (.bool (Ieee.double.order (a % 9223372036854775808) 9218868437227405311 == some .gt)) ∧ w = w' := by
  go_enter Try.func25, Try.ntmps25
  go_wp2_with (go_at_call 30; refine (abs_any _ _ ha).mono ?_; rintro e w' ⟨rfl, rfl⟩)
  go_ret
  exact ⟨rfl, rfl⟩

theorem bool_kind {P : Prop} [Decidable P] (h : P) : decide P = true := by simpa using h
set_option maxHeartbeats 800000 in
theorem kind_any (a : Nat) (w : World) (ha : a < 18446744073709551616) :
    Calls Try.prog 19 #[.float .f64 a] w fun e w' => e = .returned (.int .i64 (Num.kindN a : Nat)) ∧ w = w' := by
  have z : (Ieee.double.order a 0 == some .eq) = (FloatKind.f64.format.order a 0 == some .eq) := rfl
  by_cases h1 : 9218868437227405312 < a % 9223372036854775808
  · have e0 : Num.isNan a = true := by unfold Num.isNan; simpa using h1
    have ek : Hid (Num.kindN a = 0) := Lib.hid (by unfold Num.kindN; rw [if_pos h1])
    clear h1 z
    go_enter Try.func19, Try.ntmps19
    go_wp2_with (go_at_call 24; refine (isnan_any _ _ ha).mono ?_; rintro e w' ⟨rfl, rfl⟩)
    go_ret
    exact ⟨by rw [ek.out]; rfl, rfl⟩
  · have e0 : Num.isNan a = false := by unfold Num.isNan; simpa using h1
    have em := Num.order_max (r := a % 9223372036854775808) (by omega) h1
    have ez := Num.order_zero ha h1
    rw [z] at ez; clear z
    by_cases h2 : a % 9223372036854775808 = 9218868437227405312
    · rw [decide_eq_true h2] at em
      have ek : Hid (Num.kindN a = 1) := Lib.hid (by unfold Num.kindN; rw [if_neg h1, if_pos h2])
      clear h1 h2 ez
      go_enter Try.func19, Try.ntmps19
      go_wp2_with (first | (go_at_call 24; refine (isnan_any _ _ ha).mono ?_; rintro e w' ⟨rfl, rfl⟩) | (go_at_call 25; refine (isinf_any _ _ ha).mono ?_; rintro e w' ⟨rfl, rfl⟩))
      go_ret
      exact ⟨by rw [ek.out]; rfl, rfl⟩
    · rw [decide_eq_false h2] at em
      by_cases h3 : a % 9223372036854775808 = 0
      · rw [decide_eq_true h3] at ez
        have ek : Hid (Num.kindN a = 2) := Lib.hid (by unfold Num.kindN; rw [if_neg h1, if_neg h2, if_pos h3])
        clear h1 h2 h3
        go_enter Try.func19, Try.ntmps19
        go_wp2_with (first | (go_at_call 24; refine (isnan_any _ _ ha).mono ?_; rintro e w' ⟨rfl, rfl⟩) | (go_at_call 25; refine (isinf_any _ _ ha).mono ?_; rintro e w' ⟨rfl, rfl⟩))
        go_ret
        exact ⟨by rw [ek.out]; rfl, rfl⟩
      · rw [decide_eq_false h3] at ez
        have ek : Hid (Num.kindN a = 3) := Lib.hid (by unfold Num.kindN; rw [if_neg h1, if_neg h2, if_neg h3])
        clear h1 h2 h3
        go_enter Try.func19, Try.ntmps19
        go_wp2_with (first | (go_at_call 24; refine (isnan_any _ _ ha).mono ?_; rintro e w' ⟨rfl, rfl⟩) | (go_at_call 25; refine (isinf_any _ _ ha).mono ?_; rintro e w' ⟨rfl, rfl⟩))
        go_ret
        exact ⟨by rw [ek.out]; rfl, rfl⟩
end Go.Proofs.Ytokoeopokhnloaa

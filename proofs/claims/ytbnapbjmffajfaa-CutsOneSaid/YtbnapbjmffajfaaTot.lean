/-
What wire and op call of package total: Key, Of, Same.
-/
import Derived.Test.YtbnapbjmffajfaaRows
import Derived.Test.YtbnapbjmffajfaaNum
import Derived.WalkKit
import Derived.WalkSpells
import Derived.WalkLawsBesides
import Derived.Lib.Hide
import Derived.Deep.QuietTactic
import Derived.BigQuiet
namespace Go.Proofs.Ytbnapbjmffajfaa
open Go.RowKit

theorem and_low {b : Nat} (h : b < 9223372036854775808) : (bits .and .u64 (b : Int) 9223372036854775808 == 0) = true := by
  have : bits .and .u64 (b : Int) 9223372036854775808 = 0 := by go_bits2
  rw [this]; rfl
theorem and_high {b : Nat} (h : ¬ b < 9223372036854775808) (h2 : b < 18446744073709551616) : (bits .and .u64 (b : Int) 9223372036854775808 == 0) = false := by
  have : bits .and .u64 (b : Int) 9223372036854775808 = 9223372036854775808 := by go_bits2
  rw [this]; rfl
theorem or_low {b : Nat} (h : b < 9223372036854775808) : bits .or .u64 (b : Int) 9223372036854775808 = ((b + 9223372036854775808 : Nat) : Int) := by go_bits2
theorem xor_all {b : Nat} (h : b < 18446744073709551616) : 18446744073709551615 ^^^ b = 18446744073709551615 - b := by
  apply Nat.eq_of_testBit_eq; intro i
  rw [Nat.testBit_xor, show (18446744073709551615 : Nat) = 2 ^ 64 - 1 from rfl, Nat.testBit_two_pow_sub_one, show 2 ^ 64 - 1 - b = 2 ^ 64 - (b + 1) by omega, Nat.testBit_two_pow_sub_succ h]
  by_cases hi : i < 64
  · simp [hi]
  · simp only [hi, decide_false, Bool.false_and, Bool.false_xor]
    have hp : 2 ^ 64 ≤ 2 ^ i := Nat.pow_le_pow_right (by omega) (by omega)
    exact Nat.testBit_lt_two_pow (by omega)
theorem not_u64 {b : Nat} (h : b < 18446744073709551616) : bits .xor .u64 IntKind.u64.max (b : Int) = ((18446744073709551615 - b : Nat) : Int) := by
  rw [show IntKind.u64.max = ((18446744073709551615 : Nat) : Int) by decide]
  rw [u64_xor_nat _ _ (by omega) (by omega)]
  rw [xor_all h]

theorem andNot_high {b : Nat} (h : ¬ b < 9223372036854775808) (h2 : b < 18446744073709551616) : bits .andNot .u64 (b : Int) 9223372036854775808 = ((b - 9223372036854775808 : Nat) : Int) := by go_bits2
theorem ret_float {a b : Nat} (h : a = b) : Ending.returned (.float .f64 a) = .returned (.float .f64 b) := by rw [h]
theorem ret_boolT {a b : Bool} (h : a = b) : Ending.returned (.bool a) = .returned (.bool b) := by rw [h]
theorem cast_eq (a b : Nat) : ((a : Int) == (b : Int)) = decide (a = b) := by rw [Bool.eq_iff_iff]; simp; omega

end Go.Proofs.Ytbnapbjmffajfaa

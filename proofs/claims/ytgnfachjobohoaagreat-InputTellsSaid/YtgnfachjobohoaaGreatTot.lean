/-
What wire and op call of package total: Key, Of, Same.
-/
import Derived.Test.YtgnfachjobohoaaGreatRows
import Derived.Test.YtgnfachjobohoaaGreatNum
import Derived.WalkKit
import Derived.WalkSpells
import Derived.WalkLawsBesides
import Derived.Lib.Hide
import Derived.Deep.QuietTactic
import Derived.BigQuiet
namespace Go.Proofs.YtgnfachjobohoaaGreat
open Go.RowKit

theorem call_frombits (b : Int) (w : World) : (callFunc 57 #[.int .u64 b]).run Tryz.prog w = .ok (.value (.float .f64 b.toNat)) w := by
  rw [run_callFunc_extern (f := 57) (fn := Tryz.f57) (e := Extern.MathFloatBits.float64frombits) (by kernel_rfl) (by kernel_rfl) (by kernel_rfl) (by kernel_rfl) (by kernel_rfl)]
  rfl
theorem call_bits (b : Nat) (w : World) : (callFunc 44 #[.float .f64 b]).run Tryz.prog w = .ok (.value (.int .u64 b)) w := by
  rw [run_callFunc_extern (f := 44) (fn := Tryz.f44) (e := Extern.MathFloatBits.float64bits) (by kernel_rfl) (by kernel_rfl) (by kernel_rfl) (by kernel_rfl) (by kernel_rfl)]
  rfl

theorem and_low {b : Nat} (h : b < 9223372036854775808) : (bits .and .u64 (b : Int) 9223372036854775808 == 0) = true := by
  have : bits .and .u64 (b : Int) 9223372036854775808 = 0 := by go_bits2
  rw [this]; rfl
theorem and_high {b : Nat} (h : ¬ b < 9223372036854775808) (h2 : b < 18446744073709551616) : (bits .and .u64 (b : Int) 9223372036854775808 == 0) = false := by
  have : bits .and .u64 (b : Int) 9223372036854775808 = 9223372036854775808 := by go_bits2
  rw [this]; rfl
theorem or_low {b : Nat} (h : b < 9223372036854775808) : bits .or .u64 (b : Int) 9223372036854775808 = ((b + 9223372036854775808 : Nat) : Int) := by go_bits2
theorem xor_all {b : Nat} (h : b < 18446744073709551616) : 18446744073709551615 ^^^ b = 18446744073709551615 - b := by
  apply Nat.eq_of_testBit_eq; intro i
  rw [Nat.testBit_xor, show (18446744073709551615 : Nat) = 2 ^ 64 - 1 from rfl, Nat.testBit_two_pow_sub_one, show 2 ^ 64 - 1 - b = 2 ^ 64 - (b + 1) by omega, Nat.testBit_two_pow_sub_succ h]
  by_cases hi : i < 64
  · simp [hi]
  · simp only [hi, decide_false, Bool.false_and, Bool.false_xor]
    have hp : 2 ^ 64 ≤ 2 ^ i := Nat.pow_le_pow_right (by omega) (by omega)
    exact Nat.testBit_lt_two_pow (by omega)
theorem not_u64 {b : Nat} (h : b < 18446744073709551616) : bits .xor .u64 IntKind.u64.max (b : Int) = ((18446744073709551615 - b : Nat) : Int) := by
  rw [show IntKind.u64.max = ((18446744073709551615 : Nat) : Int) by decide]
  rw [u64_xor_nat _ _ (by omega) (by omega)]
  rw [xor_all h]

set_option maxHeartbeats 400000 in
theorem tkey_any (b : Nat) (w : World) (hb : b < 18446744073709551616) :
    Calls Tryz.prog 100 #[.float .f64 b] w fun e w' => e = .returned (.int .u64 (Num.key b : Nat)) ∧ w = w' := by
  have cb := call_bits
  unfold Num.key
  by_cases h : b < 9223372036854775808
  · have h1 := and_low h
    have h2 := Lib.hid (or_low h)
    rw [if_pos h]
    clear h
    go_enter Tryz.func100, Tryz.ntmps100
    go_wp2
    go_ret
    exact ⟨by rw [← h2.out]; rfl, rfl⟩
  · have h1 := and_high h hb
    have h2 := Lib.hid (not_u64 hb)
    rw [if_neg h]
    clear h
    go_enter Tryz.func100, Tryz.ntmps100
    go_wp2
    go_ret
    exact ⟨by rw [← h2.out]; rfl, rfl⟩


theorem andNot_high {b : Nat} (h : ¬ b < 9223372036854775808) (h2 : b < 18446744073709551616) : bits .andNot .u64 (b : Int) 9223372036854775808 = ((b - 9223372036854775808 : Nat) : Int) := by go_bits2
set_option maxHeartbeats 400000 in
theorem tof_any (b : Nat) (w : World) (hb : b < 18446744073709551616) :
    Calls Tryz.prog 104 #[.int .u64 b] w fun e w' => e = .returned (.float .f64 (Num.unkey b)) ∧ w = w' := by
  have cb := call_frombits
  unfold Num.unkey
  by_cases h : b < 9223372036854775808
  · have h1 := and_low h
    have h2 := Lib.hid (not_u64 hb)
    rw [if_pos h]
    clear h
    go_enter Tryz.func104, Tryz.ntmps104
    go_wp2
    go_ret
    exact ⟨by rw [← Int.toNat_natCast (18446744073709551615 - b), ← h2.out]; rfl, rfl⟩
  · have h1 := and_high h hb
    have h2 := Lib.hid (andNot_high h hb)
    rw [if_neg h]
    clear h
    go_enter Tryz.func104, Tryz.ntmps104
    go_wp2
    go_ret
    exact ⟨by rw [← Int.toNat_natCast (b - 9223372036854775808), ← h2.out]; rfl, rfl⟩

theorem ret_float {a b : Nat} (h : a = b) : Ending.returned (.float .f64 a) = .returned (.float .f64 b) := by rw [h]
theorem ret_boolT {a b : Bool} (h : a = b) : Ending.returned (.bool a) = .returned (.bool b) := by rw [h]
theorem cast_eq (a b : Nat) : ((a : Int) == (b : Int)) = decide (a = b) := by rw [Bool.eq_iff_iff]; simp; omega

set_option maxHeartbeats 400000 in
theorem tsame_any (a b : Nat) (w : World) :
    Calls Tryz.prog 98 #[.float .f64 a, .float .f64 b] w fun e w' => e = .returned (.bool (Num.sameB a b)) ∧ w = w' := by
  have cb := call_bits
  go_enter Tryz.func98, Tryz.ntmps98
  go_wp2
  go_ret
  exact ⟨ret_boolT (cast_eq _ _), rfl⟩
end Go.Proofs.YtgnfachjobohoaaGreat

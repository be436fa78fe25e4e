/-
The sum of bytes, by package crc and by the document's own function; both are Crc.sum.
-/
import Derived.Test.YtbgjghgmdhnhbaaCalls
namespace Go.Proofs.Ytbgjghgmdhnhbaa
open Go.RowKit

theorem rows_one {w : World} {v : Value} {l : List Nat} (h : Bytes w v l) : Rows' (w.alloc (.cells #[v] 23)) (.slice (some ⟨w.heap.size, 0, none⟩) 1 1) [l] := by
  have hb : Bytes (w.alloc (.cells #[v] 23)) v l := h.below ((Below.refl _ _).alloc (Nat.le_refl _) _)
  refine ⟨_, 1, [v], rfl, rfl, Or.inr ⟨w.heap.size, 0, rfl, ?_⟩, ?_⟩
  · intro i hi
    obtain rfl : i = 0 := by simp at hi; omega
    go_simp
  · intro i hi
    obtain rfl : i = 0 := by simp at hi; omega
    exact hb

set_option maxHeartbeats 400000 in
theorem of_any (v : Value) (l : List Nat) (w : World) (hv : Bytes w v l) (hl : l.length ≤ 9223372036854775807) :
    Calls Try.prog 34 #[v] w fun e w' => e = .returned (.int .u32 (Crc.sum l : Nat)) ∧ Below w.heap.size w w' := by
  have HR := Lib.hid (rows_one hv)
  have hf : Hid ([l].flatten = l) := Lib.hid (by simp)
  obtain ⟨_, a, c, rfl, _⟩ := hv
  go_enter Try.func34, Try.ntmps34
  go_wp2_with fail
  refine (join_any _ [l] _ HR.out (by simp) (by simpa using hl)).mono ?_
  rintro e w' ⟨rfl, rfl⟩
  rw [hf.out]
  go_wp2_with fail
  go_ret
  exact ⟨rfl, (Below.refl _ _).alloc (Nat.le_refl _) _⟩

theorem not32 {b : Nat} (h : b < 4294967296) : b ^^^ 4294967295 = 4294967295 - b := by
  apply Nat.eq_of_testBit_eq; intro i
  rw [Nat.testBit_xor, show (4294967295 : Nat) = 2 ^ 32 - 1 from rfl, Nat.testBit_two_pow_sub_one, show 2 ^ 32 - 1 - b = 2 ^ 32 - (b + 1) by omega, Nat.testBit_two_pow_sub_succ h]
  by_cases hi : i < 32
  · simp [hi]
  · simp only [hi, decide_false, Bool.false_and, Bool.xor_false]
    have hp : 2 ^ 32 ≤ 2 ^ i := Nat.pow_le_pow_right (by omega) (by omega)
    exact Nat.testBit_lt_two_pow (by omega)

theorem xor64 {a b : Nat} (ha : a < 4294967296) (hb : b < 4294967296) : bits .xor .u64 (a : Int) (b : Int) = ((a ^^^ b : Nat) : Int) := u64_xor_nat a b (by omega) (by omega)

/-- The document's sum behind j of the eight steps of a byte. -/
def RSteps (z k : Nat) (x : Value) : Prop := x = .int .u64 (Crc.bits8 k z : Nat)
/-- The document's sum behind j bytes. -/
def RFar (l : List Nat) (j : Nat) (x : Value) : Prop := x = .int .u64 (Crc.run 4294967295 (l.take j) : Nat)

theorem rbit_high {t : Nat} (h : ¬ t < 2147483648) (h2 : t < 4294967296) : bits .xor .u64 ((2 * t - 4294967296 : Nat) : Int) 79764919 = (Crc.bit t : Nat) := by
  rw [Crc.bit_high h]
  exact xor64 (a := 2 * t - 4294967296) (b := 79764919) (by omega) (by omega)

end Go.Proofs.Ytbgjghgmdhnhbaa

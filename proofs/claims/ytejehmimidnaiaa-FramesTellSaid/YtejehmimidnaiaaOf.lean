/-
The sum of bytes, by package crc and by the document's own function; both are Crc.sum.
-/
import Derived.Test.YtejehmimidnaiaaCalls
namespace Go.Proofs.Ytejehmimidnaiaa
open Go.RowKit

theorem rows_one {w : World} {v : Value} {l : List Nat} (h : Bytes w v l) : Rows' (w.alloc (.cells #[v] 22)) (.slice (some ⟨w.heap.size, 0, none⟩) 1 1) [l] := by
  have hb : Bytes (w.alloc (.cells #[v] 22)) v l := h.below ((Below.refl _ _).alloc (Nat.le_refl _) _)
  refine ⟨_, 1, [v], rfl, rfl, Or.inr ⟨w.heap.size, 0, rfl, ?_⟩, ?_⟩
  · intro i hi
    obtain rfl : i = 0 := by simp at hi; omega
    go_simp
  · intro i hi
    obtain rfl : i = 0 := by simp at hi; omega
    exact hb

theorem not32 {b : Nat} (h : b < 4294967296) : b ^^^ 4294967295 = 4294967295 - b := by
  apply Nat.eq_of_testBit_eq; intro i
  rw [Nat.testBit_xor, show (4294967295 : Nat) = 2 ^ 32 - 1 from rfl, Nat.testBit_two_pow_sub_one, show 2 ^ 32 - 1 - b = 2 ^ 32 - (b + 1) by omega, Nat.testBit_two_pow_sub_succ h]
  by_cases hi : i < 32
  · simp [hi]
  · simp only [hi, decide_false, Bool.false_and, Bool.xor_false]
    have hp : 2 ^ 32 ≤ 2 ^ i := Nat.pow_le_pow_right (by omega) (by omega)
    exact Nat.testBit_lt_two_pow (by omega)

theorem xor64 {a b : Nat} (ha : a < 4294967296) (hb : b < 4294967296) : bits .xor .u64 (a : Int) (b : Int) = ((a ^^^ b : Nat) : Int) := u64_xor_nat a b (by omega) (by omega)

/-- The document's sum behind j of the eight steps of a byte. -/
def RSteps (z k : Nat) (x : Value) : Prop := x = .int .u64 (Crc.bits8 k z : Nat)
/-- The document's sum behind j bytes. -/
def RFar (l : List Nat) (j : Nat) (x : Value) : Prop := x = .int .u64 (Crc.run 4294967295 (l.take j) : Nat)

theorem rbit_high {t : Nat} (h : ¬ t < 2147483648) (h2 : t < 4294967296) : bits .xor .u64 ((2 * t - 4294967296 : Nat) : Int) 79764919 = (Crc.bit t : Nat) := by
  rw [Crc.bit_high h]
  exact xor64 (a := 2 * t - 4294967296) (b := 79764919) (by omega) (by omega)

set_option maxHeartbeats 800000 in
theorem rof_any (v : Value) (l : List Nat) (w : World) (hv : Bytes w v l) (hl : l.length ≤ 9223372036854775807) :
    Calls Try.prog 18 #[v] w fun e w' => e = .returned (.int .u32 (Crc.sum l : Nat)) ∧ w = w' := by
  obtain ⟨h256, a, c, rfl, hcell⟩ := hv
  have HC := Lib.hid hcell
  have HY := Lib.hid h256
  have hst : Hid (RFar l 0 (.int .u64 4294967295)) := Lib.hid (by unfold RFar; rw [List.take_zero, Crc.run_nil]; rfl)
  clear hcell h256
  go_enter Try.func18, Try.ntmps18
  go_wp2_with fail
  go_loop [3, 4] (fun x i => ∃ j : Nat, j ≤ l.length ∧ i = .int .i64 j ∧ RFar l j x) (fun _ i => l.length - (intOf i).toNat)
  case atStart => exact ⟨0, Nat.zero_le _, rfl, hst.out⟩
  case round =>
    obtain ⟨j, hj, rfl, hx⟩ := hrel
    by_cases hlt : j < l.length
    · obtain ⟨b, off, ha, hb, hc⟩ := HC.out.resolve_left (by intro e; rw [e] at hlt; simp at hlt)
      subst ha
      have hd := hc j hlt
      unfold RFar at hx
      have hz0 : Crc.run 4294967295 (l.take j) < 4294967296 := Crc.run_lt _ (fun y hy => HY.out y (List.mem_of_mem_take hy)) _ (by omega)
      have hn : Hid (Crc.run 4294967295 (l.take (j + 1)) = Crc.byte (Crc.run 4294967295 (l.take j)) l[j]) := Lib.hid (Crc.run_take _ l j hlt)
      have hc256 := HY.out _ (List.getElem_mem hlt)
      subst hx
      obtain ⟨s, hs⟩ : ∃ s, s = Crc.run 4294967295 (l.take j) := ⟨_, rfl⟩
      rw [← hs] at hz0 hn ⊢
      obtain ⟨d, hd'⟩ : ∃ d, d = l[j] := ⟨_, rfl⟩
      rw [← hd'] at hd hc256 hn
      clear hs hd'
      obtain ⟨z, hz⟩ : ∃ z, z = s ^^^ (d * 16777216) := ⟨_, rfl⟩
      have h0 : Hid (bits .xor .u64 (s : Int) (16777216 * (d : Int)) = (z : Nat)) := Lib.hid (by
        have := xor64 (a := s) (b := d * 16777216) hz0 (by omega)
        rw [hz, ← this, Int.natCast_mul, Int.mul_comm]; rfl)
      have HL0 : Hid (z < 4294967296) := Lib.hid (by rw [hz]; exact Crc.xor_lt32 hz0 (by omega))
      have hfin : Hid (Crc.bits8 8 z = Crc.byte s d) := Lib.hid (by rw [hz, Crc.byte_eq])
      have hd256 : (d : Int) < 256 := by omega
      clear hz hz0 hc256 hc hb
      go_wp2_with fail
      go_loop [3, 5] (fun x i => ∃ k : Nat, k ≤ 8 ∧ i = .int .i64 k ∧ RSteps z k x) (fun _ i => 8 - (intOf i).toNat)
      case atStart => exact ⟨0, Nat.zero_le _, rfl, by unfold RSteps; rw [h0.out, Crc.bits8_zero]⟩
      case round =>
        obtain ⟨k, hk, rfl, hx⟩ := hrel
        unfold RSteps at hx
        subst hx
        by_cases hk8 : k < 8
        · have hlt' : (k : Int) < 8 := by omega
          have ht := Crc.bits8_lt k HL0.out
          obtain ⟨t, e⟩ : ∃ t, t = Crc.bits8 k z := ⟨_, rfl⟩
          have hn : Hid (Crc.bits8 (k + 1) z = Crc.bit t) := Lib.hid (by rw [e, Crc.bits8_succ])
          rw [← e] at ht ⊢
          clear e
          have ht' : (t : Int) < 4294967296 := by omega
          by_cases hb : t < 2147483648
          · have hb' : ¬ (4294967296 : Int) ≤ 2 * (t : Int) := by omega
            have B := Lib.hid (bit_low hb)
            clear hb ht
            go_wp2_with fail
            go_round
            case rel => exact ⟨k + 1, by omega, by go_num, by unfold RSteps; rw [hn.out, ← B.out]; go_num⟩
            case measure => simp [intOf]; omega
          · have hb' : (4294967296 : Int) ≤ 2 * (t : Int) := by omega
            have B := Lib.hid (rbit_high hb (by omega))
            have H1 : Hid (((2 * t - 4294967296 : Nat) : Int) = 2 * (t : Int) - 4294967296) := Lib.hid (by omega)
            clear hb ht
            go_wp2_with fail
            go_round
            case rel => exact ⟨k + 1, by omega, by go_num, by unfold RSteps; rw [hn.out, ← B.out, H1.out]⟩
            case measure => simp [intOf]; omega
        · obtain rfl : k = 8 := by omega
          rw [hfin.out]
          go_wp2_with fail
          go_round
          case rel => exact ⟨j + 1, by omega, by go_num, by unfold RFar; rw [hn.out]⟩
          case measure => simp [intOf]; omega
    · obtain rfl : j = l.length := by omega
      unfold RFar at hx
      rw [List.take_length] at hx
      subst hx
      have hs32 : Crc.run 4294967295 l < 4294967296 := Crc.run_lt _ HY.out _ (by omega)
      have hq : Hid (Crc.sum l = 4294967295 - Crc.run 4294967295 l) := Lib.hid (by rw [Crc.sum_eq, not32 hs32])
      obtain ⟨s, hs⟩ : ∃ s, s = Crc.run 4294967295 l := ⟨_, rfl⟩
      rw [← hs] at hs32 hq ⊢
      clear hs
      have hs' : (s : Int) < 4294967296 := by omega
      clear hs32
      go_wp2_with fail
      go_ret
      exact ⟨ret_u32 (by rw [hq.out]; omega), rfl⟩
end Go.Proofs.Ytejehmimidnaiaa

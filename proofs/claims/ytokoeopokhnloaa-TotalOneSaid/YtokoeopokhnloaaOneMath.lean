/-
Plain mathematics: +0 added changes no sum that is not -0; no sum from +0 on is -0.
-/
import Derived.Test.YtokoeopokhnloaaSums
namespace Go.Proofs.Ytokoeopokhnloaa
namespace Num

theorem cut_exact (neg : Bool) (d u : Nat) (hd : 0 < d) : Ieee.Toward.even.cut neg (d * 2 ^ u) u = d := by
  have hlog : u ≤ (d * 2 ^ u).log2 + 2 := by
    have h1 : 2 ^ u ≤ d * 2 ^ u := Nat.le_mul_of_pos_left _ hd
    have : u ≤ (d * 2 ^ u).log2 := (Nat.le_log2 (by have := Nat.two_pow_pos u; omega)).2 h1
    omega
  unfold Ieee.Toward.cut
  dsimp only
  rw [Nat.min_eq_left hlog, Nat.shiftLeft_eq, Nat.one_mul, Nat.mul_div_cancel _ (Nat.two_pow_pos u), Nat.mul_mod_left]
  have hp := Nat.two_pow_pos u
  have h1 : decide (2 ^ u < 2 * 0) = false := by simp
  have h2 : (2 ^ u == 2 * 0) = false := by rw [beq_eq_false_iff_ne]; omega
  rw [h1, h2]; rfl

/-- A number of the format, written, is itself. -/
theorem nearest_rung (neg : Bool) (r : Nat) (h0 : 0 < r) (h1 : r < 9218868437227405312) : Ieee.double.nearest neg (mag r) (-1074) = Ieee.double.word neg r := by
  have hm : mag r ≠ 0 := by have := mag_lt h0; omega
  unfold Ieee.Format.nearest
  rw [if_neg hm, double_least, double_binade, double_inf]
  dsimp only
  have hf : (Ieee.double.fractionBits : Int) = 52 := rfl
  rw [hf]
  by_cases hs : r < 2 ^ 52
  · have e : mag r = r := by unfold mag; rw [if_pos hs]
    rw [e]
    have hl : r.log2 < 52 := (Nat.log2_lt (by omega)).2 hs
    have e1 : max (-1074 + (r.log2 : Int) - 52) (-1074) = -1074 := by omega
    rw [e1]
    simp only [Int.sub_self, Int.toNat_zero, Nat.shiftLeft_zero, Nat.zero_mul, Nat.zero_add]
    have := cut_exact neg r 0 h0
    rw [Nat.pow_zero, Nat.mul_one] at this
    rw [this, Nat.min_eq_left (by omega)]
  · have hd : 0 < digits r := by unfold digits; rw [if_neg hs]; omega
    rw [mag_digits]
    have hl : (digits r * 2 ^ up r).log2 = 52 + up r := by
      rw [Nat.log2_eq_iff (by have := Nat.mul_pos hd (Nat.two_pow_pos (up r)); omega), Nat.pow_add, show 52 + up r + 1 = 53 + up r by omega, Nat.pow_add]
      unfold digits; rw [if_neg hs]
      exact ⟨Nat.mul_le_mul_right _ (by omega), Nat.mul_lt_mul_of_pos_right (by omega) (Nat.two_pow_pos _)⟩
    rw [hl]
    have e1 : max (-1074 + ((52 + up r : Nat) : Int) - 52) (-1074) = -1074 + (up r : Int) := by omega
    rw [e1]
    have e2 : (-1074 - (-1074 + (up r : Int))).toNat = 0 := by omega
    have e3 : (-1074 + (up r : Int) - -1074).toNat = up r := by omega
    rw [e2, e3, Nat.shiftLeft_zero, cut_exact neg _ _ hd]
    have e4 : up r * 2 ^ 52 + digits r = r := by unfold up digits; rw [if_neg hs, if_neg hs]; omega
    rw [e4, Nat.min_eq_left (by omega)]

theorem nearest_pos (neg : Bool) (m : Nat) (p : Int) (hm : m ≠ 0) (hp : -1074 ≤ p) : ∃ r, 0 < r ∧ r ≤ 9218868437227405312 ∧ Ieee.double.nearest neg m p = Ieee.double.word neg r := by
  unfold Ieee.Format.nearest
  rw [if_neg hm, double_least, double_binade, double_inf]
  dsimp only
  refine ⟨_, ?_, Nat.min_le_right _ _, rfl⟩
  have hf : (Ieee.double.fractionBits : Int) = 52 := rfl
  rw [hf]
  by_cases h : p + (m.log2 : Int) - 52 ≤ -1074
  · rw [Int.max_eq_right h]
    have e : (-1074 - p).toNat = 0 := by omega
    rw [e]
    have hpos : 0 < m <<< (p - -1074).toNat := by rw [Nat.shiftLeft_eq]; exact Nat.mul_pos (by omega) (Nat.two_pow_pos _)
    have := cut_exact neg _ 0 hpos
    rw [Nat.pow_zero, Nat.mul_one] at this
    rw [this]; omega
  · rw [Int.max_eq_left (by omega)]
    have : 1 ≤ (p + (m.log2 : Int) - 52 - -1074).toNat := by omega
    have := Nat.mul_le_mul_right (2 ^ 52) this
    omega

theorem natAbs_sval {b : Nat} (h : b < 18446744073709551616) : (sval b).natAbs = mag (b % 9223372036854775808) := by
  unfold sval
  split
  · rename_i h1; rw [Nat.mod_eq_of_lt h1]; omega
  · rename_i h1; rw [show b % 9223372036854775808 = b - 9223372036854775808 by omega]; omega

theorem word_rung (b : Nat) (h : b < 18446744073709551616) : Ieee.double.word (decide (9223372036854775808 ≤ b)) (b % 9223372036854775808) = b := by
  unfold Ieee.Format.word
  rw [double_width]
  by_cases h1 : 9223372036854775808 ≤ b
  · rw [if_pos (by simpa using h1)]; omega
  · rw [if_neg (by simpa using h1)]; omega

theorem read_zero : Ieee.double.read 0 = .number false 0 (-1074) := by
  have := read_num (b := 0) (by omega) (by omega)
  rw [this]; rfl

/-- +0 added. -/
theorem add_zero {r : Nat} (h : r < 18446744073709551616) (hn : ¬ 9218868437227405312 < r % 9223372036854775808) (hz : r ≠ 9223372036854775808) : Ieee.double.add r 0 = some r := by
  unfold Ieee.Format.add
  rw [read_zero]
  by_cases h1 : r % 9223372036854775808 < 9218868437227405312
  · rw [read_num h h1]
    unfold Ieee.Datum.sum
    dsimp only
    generalize hu : up (r % 9223372036854775808) = u
    have e0 : min (-1074 + (u : Int)) (-1074) = -1074 := by omega
    rw [e0]
    have e1 : (-1074 + (u : Int) - -1074).toNat = u := by omega
    rw [e1]
    have e2 : Ieee.signed false 0 (-1074 - -1074 : Int).toNat = 0 := by decide
    rw [e2, Int.add_zero, ← hu, signed_sval h]
    simp only [Option.map_some, Option.some.injEq]
    unfold Ieee.Format.write
    dsimp only
    rw [natAbs_sval h]
    by_cases h0 : r % 9223372036854775808 = 0
    · have hr : r = 0 := by omega
      subst hr
      decide
    · have hs : sval r ≠ 0 := by
        have := natAbs_sval h
        have := mag_lt (show 0 < r % 9223372036854775808 by omega)
        omega
      rw [if_neg hs, nearest_rung _ _ (by omega) h1]
      have e3 : decide (sval r < 0) = decide (9223372036854775808 ≤ r) := by
        apply decide_eq_decide.2
        have hm := mag_lt (show 0 < r % 9223372036854775808 by omega)
        unfold sval
        by_cases h4 : r < 9223372036854775808
        · rw [if_pos h4]; omega
        · rw [if_neg h4]
          rw [show r % 9223372036854775808 = r - 9223372036854775808 by omega] at hm
          omega
      rw [e3, word_rung r h]
  · have h2 : r % 9223372036854775808 = 9218868437227405312 := by omega
    rw [read_inf h h2]
    unfold Ieee.Datum.sum
    simp only [Option.map_some, Option.some.injEq]
    unfold Ieee.Format.write
    dsimp only
    rw [double_inf, ← h2, word_rung r h]

theorem sum_comm (x y : Ieee.Datum) : x.sum y = y.sum x := by
  cases x <;> cases y <;> unfold Ieee.Datum.sum <;> dsimp only
  · rename_i s m i t n j
    rw [Int.min_comm j i, Int.add_comm (Ieee.signed t n _), Bool.and_comm t s]
  · rename_i s t
    by_cases h : s = t
    · subst h; rfl
    · rw [if_neg h, if_neg (fun e => h e.symm)]

theorem add_comm (x y : Nat) : Ieee.double.add x y = Ieee.double.add y x := by unfold Ieee.Format.add; rw [sum_comm]

/-- No sum of something that is not -0 is -0. -/
theorem add_not_minus {x y r : Nat} (hx : x < 18446744073709551616) (hm : x ≠ 9223372036854775808) (hy : y < 18446744073709551616) (h : Ieee.double.add x y = some r) : r ≠ 9223372036854775808 := by
  have hword : ∀ s k, 0 < k → k ≤ 9218868437227405312 → Ieee.double.word s k ≠ 9223372036854775808 := by
    intro s k h1 h2
    unfold Ieee.Format.word
    rw [double_width]
    split <;> omega
  have hinf : ∀ s, Ieee.double.write (.infinity s) ≠ 9223372036854775808 := by
    intro s
    unfold Ieee.Format.write
    dsimp only
    rw [double_inf]
    exact hword _ _ (by omega) (by omega)
  unfold Ieee.Format.add at h
  by_cases nx : 9218868437227405312 < x % 9223372036854775808
  · obtain ⟨_, _, e⟩ := read_nan hx nx; rw [e] at h; simp [Ieee.Datum.sum] at h
  by_cases ny : 9218868437227405312 < y % 9223372036854775808
  · obtain ⟨_, _, e⟩ := read_nan hy ny; rw [e] at h
    cases hd : Ieee.double.read x <;> rw [hd] at h <;> simp [Ieee.Datum.sum] at h
  by_cases ix : x % 9223372036854775808 = 9218868437227405312
  · rw [read_inf hx ix] at h
    by_cases iy : y % 9223372036854775808 = 9218868437227405312
    · rw [read_inf hy iy] at h
      simp only [Ieee.Datum.sum] at h
      split at h
      · simp only [Option.map_some, Option.some.injEq] at h; rw [← h]; exact hinf _
      · simp at h
    · rw [read_num hy (by omega)] at h
      simp only [Ieee.Datum.sum, Option.map_some, Option.some.injEq] at h; rw [← h]; exact hinf _
  rw [read_num hx (by omega)] at h
  by_cases iy : y % 9223372036854775808 = 9218868437227405312
  · rw [read_inf hy iy] at h
    simp only [Ieee.Datum.sum, Option.map_some, Option.some.injEq] at h; rw [← h]; exact hinf _
  rw [read_num hy (by omega)] at h
  simp only [Ieee.Datum.sum, Option.map_some, Option.some.injEq] at h
  generalize hu : up (x % 9223372036854775808) = u at h
  generalize hv : up (y % 9223372036854775808) = v at h
  have e1 : (-1074 + (u : Int) - min (-1074 + (u : Int)) (-1074 + (v : Int))).toNat = u - min u v := by omega
  have e2 : (-1074 + (v : Int) - min (-1074 + (u : Int)) (-1074 + (v : Int))).toNat = v - min u v := by omega
  rw [e1, e2] at h
  generalize htot : Ieee.signed (decide (9223372036854775808 ≤ x)) (digits (x % 9223372036854775808)) (u - min u v) + Ieee.signed (decide (9223372036854775808 ≤ y)) (digits (y % 9223372036854775808)) (v - min u v) = tot at h
  rw [← h]
  unfold Ieee.Format.write
  dsimp only
  by_cases h0 : tot = 0
  · rw [if_pos h0]
    subst h0
    have hs : (decide (9223372036854775808 ≤ x) && decide (9223372036854775808 ≤ y)) = false := by
      cases hsx : decide (9223372036854775808 ≤ x) with
      | false => rfl
      | true =>
        cases hsy : decide (9223372036854775808 ≤ y) with
        | false => rfl
        | true =>
          exfalso
          rw [hsx, hsy] at htot
          unfold Ieee.signed at htot
          rw [if_pos rfl, if_pos rfl, Nat.shiftLeft_eq, Nat.shiftLeft_eq] at htot
          have hd : 0 < digits (x % 9223372036854775808) := by
            simp at hsx
            unfold digits; split <;> omega
          have := Nat.mul_pos hd (Nat.two_pow_pos (u - min u v))
          omega
    rw [hs]
    unfold Ieee.Format.nearest
    rw [Int.natAbs_zero, if_pos rfl]
    decide
  · rw [if_neg h0]
    obtain ⟨k, k1, k2, e⟩ := nearest_pos (decide (tot < 0)) tot.natAbs (min (-1074 + (u : Int)) (-1074 + (v : Int))) (by omega) (by omega)
    rw [e]
    exact hword _ _ k1 k2

/-- The running sum is no NaN, fits, and is not -0. -/
theorem fold_fine (l : List Nat) (hl : ∀ x ∈ l, x < 18446744073709551616) : ∀ (acc : Option Nat), (∀ r, acc = some r → r < 18446744073709551616 ∧ ¬ 9218868437227405312 < r % 9223372036854775808 ∧ r ≠ 9223372036854775808) →
    ∀ r, l.foldl addO acc = some r → r < 18446744073709551616 ∧ ¬ 9218868437227405312 < r % 9223372036854775808 ∧ r ≠ 9223372036854775808 := by
  induction l with
  | nil => intro acc ha r h; exact ha r h
  | cons x l ih =>
    intro acc ha r h
    refine ih (fun y hy => hl y (by simp [hy])) (addO acc x) ?_ r h
    intro q hq
    cases acc with
    | none => simp [addO] at hq
    | some s =>
      obtain ⟨h1, h2, h3⟩ := ha s rfl
      have hq' : Ieee.double.add s x = some q := hq
      obtain ⟨f1, f2⟩ := add_fine hq'
      exact ⟨f1, f2, add_not_minus h1 h3 (hl x (by simp)) hq'⟩

theorem sum_snoc_zero (l : List Nat) (hl : ∀ x ∈ l, x < 18446744073709551616) : sumN (l ++ [0]) = sumN l := by
  unfold sumN foldO
  rw [List.foldl_append]
  show plainN (addO (l.foldl addO (some 0)) 0) = _
  cases h : l.foldl addO (some 0) with
  | none => rfl
  | some r =>
    obtain ⟨h1, h2, h3⟩ := fold_fine l hl (some 0) (by intro r hr; simp at hr; subst hr; decide) r h
    show plainN (Ieee.double.add r 0) = _
    rw [add_zero h1 h2 h3]

theorem sum_one (a : Nat) (h : a < 18446744073709551616) :
    sumN [a] = if kindN a = 0 then 9221120237041090561 else if kindN a = 2 then 0 else a := by
  show plainN (Ieee.double.add 0 a) = _
  rw [add_comm]
  by_cases hn : 9218868437227405312 < a % 9223372036854775808
  · have hk : kindN a = 0 := by unfold kindN; rw [if_pos hn]
    rw [add_nan_left h hn, if_pos hk]; rfl
  · have hk : kindN a ≠ 0 := by unfold kindN; rw [if_neg hn]; repeat' split
                                all_goals omega
    rw [if_neg hk]
    by_cases hm : a = 9223372036854775808
    · subst hm; decide
    · rw [add_zero h hn hm]
      split
      · rename_i h2
        unfold kindN at h2
        rw [if_neg hn] at h2
        split at h2
        · omega
        · split at h2
          · show a = 0; omega
          · omega
      · rfl
end Num
end Go.Proofs.Ytokoeopokhnloaa

/-
Plain mathematics of 64-bit floats: keys, kinds, the order by value. No program is named here.
-/
import GoSem.Core.Float
namespace Go.Proofs.Ytifoheodcbjapaa
namespace Num

def half : Nat := 9223372036854775808
def inf : Nat := 9218868437227405312

/-- The key of a word. -/
def key (b : Nat) : Nat := if b < 9223372036854775808 then b + 9223372036854775808 else 18446744073709551615 - b
/-- The word of a key. -/
def unkey (k : Nat) : Nat := if k < 9223372036854775808 then 18446744073709551615 - k else k - 9223372036854775808
def lessB (a b : Nat) : Bool := decide (key a < key b)
def sameB (a b : Nat) : Bool := decide (a = b)
def joinN (a b : Nat) : Nat := if key a < key b then b else a
def isNan (b : Nat) : Bool := decide (9218868437227405312 < b % 9223372036854775808)
def kindN (b : Nat) : Nat :=
  if 9218868437227405312 < b % 9223372036854775808 then 0
  else if b % 9223372036854775808 = 9218868437227405312 then 1
  else if b % 9223372036854775808 = 0 then 2 else 3

theorem key_lt {b : Nat} (h : b < 18446744073709551616) : key b < 18446744073709551616 := by unfold key; split <;> omega
theorem unkey_lt {b : Nat} (h : b < 18446744073709551616) : unkey b < 18446744073709551616 := by unfold unkey; split <;> omega
theorem unkey_key {b : Nat} (h : b < 18446744073709551616) : unkey (key b) = b := by unfold unkey key; split <;> split <;> omega
theorem key_inj {a b : Nat} (ha : a < 18446744073709551616) (hb : b < 18446744073709551616) (h : key a = key b) : a = b := by
  rw [← unkey_key ha, h, unkey_key hb]

/-- A magnitude in units of the least number, by its rung. -/
def mag (r : Nat) : Nat := if r < 2 ^ 52 then r else (2 ^ 52 + r % 2 ^ 52) * 2 ^ (r / 2 ^ 52 - 1)

theorem mag_succ (r : Nat) : mag r < mag (r + 1) := by
  unfold mag
  have hp : ∀ k, 1 ≤ 2 ^ k := fun k => Nat.one_le_two_pow
  by_cases h : r < 2 ^ 52
  · by_cases h' : r + 1 < 2 ^ 52
    · rw [if_pos h, if_pos h']; omega
    · have e : r + 1 = 2 ^ 52 := by omega
      rw [if_pos h, if_neg h', e]; simp; omega
  · rw [if_neg h, if_neg (by omega)]
    by_cases hm : r % 2 ^ 52 + 1 < 2 ^ 52
    · have e1 : (r + 1) / 2 ^ 52 = r / 2 ^ 52 := by omega
      have e2 : (r + 1) % 2 ^ 52 = r % 2 ^ 52 + 1 := by omega
      rw [e1, e2]
      exact Nat.mul_lt_mul_of_pos_right (by omega) (hp _)
    · have e1 : (r + 1) / 2 ^ 52 = r / 2 ^ 52 + 1 := by omega
      have e2 : (r + 1) % 2 ^ 52 = 0 := by omega
      have e3 : r / 2 ^ 52 + 1 - 1 = (r / 2 ^ 52 - 1) + 1 := by omega
      rw [e1, e2, e3, Nat.add_zero]
      generalize r / 2 ^ 52 - 1 = q
      rw [Nat.pow_add 2 q 1, Nat.mul_comm (2 ^ q), ← Nat.mul_assoc]
      exact Nat.mul_lt_mul_of_pos_right (by omega) (hp _)

theorem mag_lt {r s : Nat} (h : r < s) : mag r < mag s := by
  induction s with
  | zero => omega
  | succ n ih =>
    by_cases e : r = n
    · subst e; exact mag_succ r
    · exact Nat.lt_trans (ih (by omega)) (mag_succ n)

theorem mag_lt_iff {r s : Nat} : mag r < mag s ↔ r < s := by
  refine ⟨fun h => ?_, mag_lt⟩
  rcases Nat.lt_trichotomy r s with h' | h' | h'
  · exact h'
  · subst h'; omega
  · have := mag_lt h'; omega

theorem mag_zero : mag 0 = 0 := rfl

theorem mag_inj {r s : Nat} (h : mag r = mag s) : r = s := by
  rcases Nat.lt_trichotomy r s with h' | h' | h'
  · have := mag_lt h'; omega
  · exact h'
  · have := mag_lt h'; omega

/-- The value of a word in units of the least number. -/
def sval (b : Nat) : Int := if b < 9223372036854775808 then (mag b : Int) else -(mag (b - 9223372036854775808) : Int)

theorem double_width : Ieee.double.signWeight = 9223372036854775808 := by decide
theorem double_binade : Ieee.double.binade = 2 ^ 52 := by decide
theorem double_inf : Ieee.double.infRung = 9218868437227405312 := by decide
theorem double_least : Ieee.double.leastPlace = -1074 := by decide

theorem rung_of {b : Nat} (_h : b < 18446744073709551616) : b % 9223372036854775808 = if b < 9223372036854775808 then b else b - 9223372036854775808 := by split <;> omega
theorem neg_of {b : Nat} (h : b < 18446744073709551616) : (b / 9223372036854775808 % 2 == 1) = decide (9223372036854775808 ≤ b) := by
  rw [Bool.eq_iff_iff]; simp; omega

theorem read_nan {b : Nat} (_h : b < 18446744073709551616) (hn : 9218868437227405312 < b % 9223372036854775808) :
    ∃ s t, Ieee.double.read b = .nan s t := by
  unfold Ieee.Format.read
  rw [double_width, double_binade, double_inf]
  dsimp only
  rw [if_neg (by omega), if_neg (by omega), if_neg (by omega)]
  exact ⟨_, _, rfl⟩

theorem read_inf {b : Nat} (h : b < 18446744073709551616) (hn : b % 9223372036854775808 = 9218868437227405312) :
    Ieee.double.read b = .infinity (decide (9223372036854775808 ≤ b)) := by
  unfold Ieee.Format.read
  rw [double_width, double_binade, double_inf, neg_of h]
  dsimp only
  rw [if_neg (by omega), if_neg (by omega), if_pos hn]

/-- A finite word's number: its digits and its place. -/
def digits (r : Nat) : Nat := if r < 2 ^ 52 then r else 2 ^ 52 + r % 2 ^ 52
def up (r : Nat) : Nat := if r < 2 ^ 52 then 0 else r / 2 ^ 52 - 1

theorem mag_digits (r : Nat) : mag r = digits r * 2 ^ up r := by
  unfold mag digits up; split <;> simp

theorem read_num {b : Nat} (h : b < 18446744073709551616) (hn : b % 9223372036854775808 < 9218868437227405312) :
    Ieee.double.read b = .number (decide (9223372036854775808 ≤ b)) (digits (b % 9223372036854775808)) (-1074 + (up (b % 9223372036854775808) : Int)) := by
  unfold Ieee.Format.read
  rw [double_width, double_binade, double_inf, double_least, neg_of h]
  dsimp only
  unfold digits up
  by_cases h1 : b % 9223372036854775808 < 2 ^ 52
  · rw [if_pos h1, if_pos h1, if_pos h1]; simp
  · rw [if_neg h1, if_pos hn, if_neg h1, if_neg h1]

theorem signed_mul (s : Bool) (m u k : Nat) : Ieee.signed s m (u + k) = Ieee.signed s m u * (2 ^ k : Nat) := by
  unfold Ieee.signed
  rw [Nat.shiftLeft_eq, Nat.shiftLeft_eq, Nat.pow_add, ← Nat.mul_assoc]
  split
  · rw [Int.neg_mul]; rfl
  · rfl

theorem cmp_lt {a b : Int} : compare a b = .lt ↔ a < b := by
  unfold compare instOrdInt; simp only [compareOfLessAndEq]
  by_cases h : a < b
  · simp [h]
  · by_cases h' : a = b <;> simp [h, h']
theorem cmp_gt {a b : Int} : compare a b = .gt ↔ b < a := by
  unfold compare instOrdInt; simp only [compareOfLessAndEq]
  by_cases h : a < b
  · simp [h]; omega
  · by_cases h' : a = b
    · simp [h']
    · simp [h, h']; omega

theorem compare_mul (a b : Int) (k : Nat) : compare (a * (2 ^ k : Nat)) (b * (2 ^ k : Nat)) = compare a b := by
  have hp : (0 : Int) < (2 ^ k : Nat) := Int.natCast_pos.2 (Nat.two_pow_pos k)
  rcases Int.lt_trichotomy a b with h | h | h
  · rw [cmp_lt.2 h, cmp_lt.2 (Int.mul_lt_mul_of_pos_right h hp)]
  · subst h; simp
  · rw [cmp_gt.2 h, cmp_gt.2 (Int.mul_lt_mul_of_pos_right h hp)]

theorem signed_sval {b : Nat} (h : b < 18446744073709551616) :
    Ieee.signed (decide (9223372036854775808 ≤ b)) (digits (b % 9223372036854775808)) (up (b % 9223372036854775808)) = sval b := by
  unfold Ieee.signed sval
  rw [Nat.shiftLeft_eq, ← mag_digits]
  by_cases h1 : b < 9223372036854775808
  · rw [if_pos h1, if_neg (by simp; omega), Nat.mod_eq_of_lt h1]
  · rw [if_neg h1, if_pos (by simp; omega), show b % 9223372036854775808 = b - 9223372036854775808 by omega]

theorem order_num {a b : Nat} (ha : a < 18446744073709551616) (hb : b < 18446744073709551616)
    (hna : a % 9223372036854775808 < 9218868437227405312) (hnb : b % 9223372036854775808 < 9218868437227405312) :
    Ieee.double.order a b = some (compare (sval a) (sval b)) := by
  unfold Ieee.Format.order
  rw [read_num ha hna, read_num hb hnb]
  unfold Ieee.Datum.order
  dsimp only
  generalize hu : up (a % 9223372036854775808) = u
  generalize hv : up (b % 9223372036854775808) = v
  have e1 : (-1074 + (u : Int) - min (-1074 + (u : Int)) (-1074 + (v : Int))).toNat + min u v = u := by omega
  have e2 : (-1074 + (v : Int) - min (-1074 + (u : Int)) (-1074 + (v : Int))).toNat + min u v = v := by omega
  rw [← compare_mul _ _ (min u v), ← signed_mul, ← signed_mul, e1, e2, ← hu, ← hv, signed_sval ha, signed_sval hb]

theorem mag_lt_inf {r : Nat} (h : r < 9218868437227405312) : mag r < mag 9218868437227405312 := mag_lt h

theorem sval_bounds {b : Nat} (h : b < 18446744073709551616) (hn : b % 9223372036854775808 < 9218868437227405312) :
    -(mag 9218868437227405312 : Int) < sval b ∧ sval b < (mag 9218868437227405312 : Int) := by
  have := rung_of h
  unfold sval
  split
  · rename_i h1
    have := mag_lt (show b < 9218868437227405312 by omega)
    omega
  · rename_i h1
    have := mag_lt (show b - 9223372036854775808 < 9218868437227405312 by omega)
    omega

theorem sval_inf {b : Nat} (h : b < 18446744073709551616) (hn : b % 9223372036854775808 = 9218868437227405312) :
    sval b = if 9223372036854775808 ≤ b then -(mag 9218868437227405312 : Int) else (mag 9218868437227405312 : Int) := by
  unfold sval
  by_cases h1 : b < 9223372036854775808
  · rw [if_pos h1, if_neg (by omega), show b = 9218868437227405312 by omega]
  · rw [if_neg h1, if_pos (by omega), show b - 9223372036854775808 = 9218868437227405312 by omega]

/-- The order of two words, neither a NaN. -/
theorem order_val {a b : Nat} (ha : a < 18446744073709551616) (hb : b < 18446744073709551616)
    (hna : ¬ 9218868437227405312 < a % 9223372036854775808) (hnb : ¬ 9218868437227405312 < b % 9223372036854775808) :
    Ieee.double.order a b = some (compare (sval a) (sval b)) := by
  have hM : (0 : Int) < (mag 9218868437227405312 : Int) := by
    have := mag_lt (show 0 < 9218868437227405312 by omega); omega
  by_cases h1 : a % 9223372036854775808 < 9218868437227405312
  · by_cases h2 : b % 9223372036854775808 < 9218868437227405312
    · exact order_num ha hb h1 h2
    · have h2' : b % 9223372036854775808 = 9218868437227405312 := by omega
      have hs := sval_bounds ha h1
      have hi := sval_inf hb h2'
      unfold Ieee.Format.order
      rw [read_num ha h1, read_inf hb h2']
      unfold Ieee.Datum.order
      by_cases h3 : 9223372036854775808 ≤ b
      · rw [if_pos h3] at hi; simp only [h3, decide_true, if_true]; rw [cmp_gt.2 (by omega)]
      · rw [if_neg h3] at hi; simp only [h3, decide_false]; rw [cmp_lt.2 (by omega)]; rfl
  · have h1' : a % 9223372036854775808 = 9218868437227405312 := by omega
    have hi := sval_inf ha h1'
    by_cases h2 : b % 9223372036854775808 < 9218868437227405312
    · have hs := sval_bounds hb h2
      unfold Ieee.Format.order
      rw [read_num hb h2, read_inf ha h1']
      unfold Ieee.Datum.order
      by_cases h3 : 9223372036854775808 ≤ a
      · rw [if_pos h3] at hi; simp only [h3, decide_true, if_true]; rw [cmp_lt.2 (by omega)]
      · rw [if_neg h3] at hi; simp only [h3, decide_false]; rw [cmp_gt.2 (by omega)]; rfl
    · have h2' : b % 9223372036854775808 = 9218868437227405312 := by omega
      have hj := sval_inf hb h2'
      unfold Ieee.Format.order
      rw [read_inf ha h1', read_inf hb h2']
      unfold Ieee.Datum.order
      rw [hi, hj]
      by_cases h3 : 9223372036854775808 ≤ a <;> by_cases h4 : 9223372036854775808 ≤ b <;> simp only [h3, h4, decide_true, decide_false, if_true, if_false]
      · simp
      · rw [cmp_lt.2 (show -(mag 9218868437227405312 : Int) < (mag 9218868437227405312 : Int) by omega)]; decide
      · rw [cmp_gt.2 (show -(mag 9218868437227405312 : Int) < (mag 9218868437227405312 : Int) by omega)]; decide
      · simp

theorem order_nan_left {a b : Nat} (ha : a < 18446744073709551616) (hna : 9218868437227405312 < a % 9223372036854775808) :
    Ieee.double.order a b = none := by
  obtain ⟨s, t, e⟩ := read_nan ha hna
  unfold Ieee.Format.order
  rw [e]; rfl

theorem order_nan_right {a b : Nat} (hb : b < 18446744073709551616) (hnb : 9218868437227405312 < b % 9223372036854775808) :
    Ieee.double.order a b = none := by
  obtain ⟨s, t, e⟩ := read_nan hb hnb
  unfold Ieee.Format.order
  rw [e]; cases Ieee.double.read a <;> rfl

/-- Where neither is a NaN or nought, the order of the keys is the order of the values. -/
theorem order_key {a b : Nat} (ha : a < 18446744073709551616) (hb : b < 18446744073709551616)
    (hna : kindN a % 2 = 1) (hnb : kindN b % 2 = 1) :
    (Ieee.double.order a b == some .lt) = lessB a b := by
  have fact : ∀ c, kindN c % 2 = 1 → ¬ 9218868437227405312 < c % 9223372036854775808 ∧ c % 9223372036854775808 ≠ 0 := by
    intro c hc; unfold kindN at hc
    constructor
    · intro h; rw [if_pos h] at hc; omega
    · intro h; rw [if_neg (by omega), if_neg (by omega), if_pos h] at hc; omega
  obtain ⟨a1, a2⟩ := fact a hna
  obtain ⟨b1, b2⟩ := fact b hnb
  rw [order_val ha hb a1 b1]
  have e : (some (compare (sval a) (sval b)) == some Ordering.lt) = decide (sval a < sval b) := by
    rw [Bool.eq_iff_iff]; simp [cmp_lt]
  rw [e]
  unfold lessB
  apply decide_eq_decide.2
  unfold sval key
  have pa := @mag_lt_iff a b
  have z := mag_zero
  by_cases h1 : a < 9223372036854775808 <;> by_cases h2 : b < 9223372036854775808
  · simp only [h1, h2, if_true]; have := @mag_lt_iff a b; omega
  · simp only [h1, h2, if_true, if_false]; constructor
    · intro h; have := mag_lt (show 0 < a by omega); omega
    · intro h; omega
  · simp only [h1, h2, if_true, if_false]
    have := mag_lt (show 0 < b by omega)
    constructor
    · intro h; omega
    · intro h; omega
  · simp only [h1, h2, if_false]
    have := @mag_lt_iff (b - 9223372036854775808) (a - 9223372036854775808)
    omega

theorem order_self {a : Nat} (ha : a < 18446744073709551616) : (Ieee.double.order a a != some .eq) = isNan a := by
  unfold isNan
  by_cases h : 9218868437227405312 < a % 9223372036854775808
  · rw [order_nan_left ha h]; simp [h]
  · rw [order_val ha ha h h]; simp; omega

theorem order_zero {a : Nat} (ha : a < 18446744073709551616) (hn : ¬ 9218868437227405312 < a % 9223372036854775808) :
    (Ieee.double.order a 0 == some .eq) = decide (a % 9223372036854775808 = 0) := by
  rw [order_val ha (by omega) hn (by decide)]
  have e : (some (compare (sval a) (sval 0)) == some Ordering.eq) = decide (sval a = sval 0) := by
    rw [Bool.eq_iff_iff]; simp
  rw [e]
  apply decide_eq_decide.2
  have z : sval 0 = 0 := by decide
  rw [z, rung_of ha]
  unfold sval
  split
  · constructor
    · intro h; exact mag_inj (by rw [mag_zero]; omega)
    · intro h; subst h; rfl
  · constructor
    · intro h; exact mag_inj (by rw [mag_zero]; omega)
    · intro h; rw [h]; rfl

/-- The absolute value is above the greatest number just if it is infinity. -/
theorem order_max {r : Nat} (hr : r < 9223372036854775808) (hn : ¬ 9218868437227405312 < r) :
    (Ieee.double.order r 9218868437227405311 == some .gt) = decide (r = 9218868437227405312) := by
  rw [order_val (by omega) (by omega) (by omega) (by decide)]
  have e : (some (compare (sval r) (sval 9218868437227405311)) == some Ordering.gt) = decide (sval 9218868437227405311 < sval r) := by
    rw [Bool.eq_iff_iff]; simp [cmp_gt]
  rw [e]
  apply decide_eq_decide.2
  unfold sval
  rw [if_pos (by omega), if_pos hr]
  have := @mag_lt_iff 9218868437227405311 r
  omega

theorem kindN_cases (b : Nat) : kindN b = 0 ∨ kindN b = 1 ∨ kindN b = 2 ∨ kindN b = 3 := by
  unfold kindN; repeat' split
  all_goals omega

end Num
end Go.Proofs.Ytifoheodcbjapaa

/-
Plain mathematics of bursts: the steps are linear over exclusive or, and one to one.
-/
import Derived.Test.YtiadbapelkagiaaCrc
namespace Go.Proofs.Ytiadbapelkagiaa
namespace Crc

theorem bit_eq {s : Nat} (h : s < 4294967296) : bit s = (2 * s) % 2 ^ 32 ^^^ (if s.testBit 31 then 79764919 else 0) := by
  have ht : s.testBit 31 = decide (2147483648 ≤ s) := by
    rw [Nat.testBit_eq_decide_div_mod_eq]
    apply decide_eq_decide.2
    omega
  rw [ht]
  by_cases hs : s < 2147483648
  · rw [bit_low hs, if_neg (by simp; omega), Nat.xor_zero]; omega
  · rw [bit_high hs, if_pos (by simp; omega), show 2 * s - 4294967296 = 2 * s % 2 ^ 32 by omega]

theorem two_xor (a b : Nat) : 2 * (a ^^^ b) = 2 * a ^^^ 2 * b := by
  have := Nat.shiftLeft_xor_distrib (a := a) (b := b) (i := 1)
  simpa [Nat.shiftLeft_eq, Nat.mul_comm] using this

theorem bit_xor {a b : Nat} (ha : a < 4294967296) (hb : b < 4294967296) : bit (a ^^^ b) = bit a ^^^ bit b := by
  rw [bit_eq ha, bit_eq hb, bit_eq (xor_lt32 ha hb), Nat.testBit_xor, two_xor, Nat.xor_mod_two_pow]
  generalize 2 * a % 2 ^ 32 = x
  generalize 2 * b % 2 ^ 32 = y
  cases a.testBit 31 <;> cases b.testBit 31 <;> simp
  · rw [Nat.xor_assoc]
  · rw [Nat.xor_assoc, Nat.xor_assoc, Nat.xor_comm y]
  · have : x ^^^ 79764919 ^^^ (y ^^^ 79764919) = x ^^^ y ^^^ (79764919 ^^^ 79764919) := by
      rw [Nat.xor_assoc, Nat.xor_comm y, ← Nat.xor_assoc 79764919, Nat.xor_self, Nat.zero_xor, Nat.xor_zero]
    rw [this, Nat.xor_self, Nat.xor_zero]

theorem bits8_xor (k : Nat) {a b : Nat} (ha : a < 4294967296) (hb : b < 4294967296) : bits8 k (a ^^^ b) = bits8 k a ^^^ bits8 k b := by
  induction k with
  | zero => rw [bits8_zero, bits8_zero, bits8_zero]
  | succ k ih => rw [bits8_succ, bits8_succ, bits8_succ, ih, bit_xor (bits8_lt k ha) (bits8_lt k hb)]

theorem bits8_add (a b s : Nat) : bits8 (a + b) s = bits8 a (bits8 b s) := by
  induction a with
  | zero => rw [Nat.zero_add, bits8_zero]
  | succ a ih => rw [Nat.succ_add, bits8_succ, bits8_succ, ih]

theorem bit_zero {s : Nat} (h : s < 4294967296) (e : bit s = 0) : s = 0 := by
  by_cases hs : s < 2147483648
  · rw [bit_low hs] at e; omega
  · rw [bit_high hs] at e
    have : 2 * s - 4294967296 = 79764919 := by
      have h1 : (2 * s - 4294967296 ^^^ 79764919) ^^^ 79764919 = 0 ^^^ 79764919 := by rw [e]
      rw [Nat.xor_assoc, Nat.xor_self, Nat.xor_zero, Nat.zero_xor] at h1
      exact h1
    omega

theorem bits8_ne (k : Nat) {s : Nat} (h : s < 4294967296) (h0 : s ≠ 0) : bits8 k s ≠ 0 := by
  induction k with
  | zero => rw [bits8_zero]; exact h0
  | succ k ih => rw [bits8_succ]; exact fun e => ih (bit_zero (bits8_lt k h) e)

theorem bits8_pow (k : Nat) (h : k ≤ 31) : bits8 k (2 ^ (31 - k)) = 2147483648 := by
  have go : ∀ k, ∀ j, k + j ≤ 31 → bits8 k (2 ^ j) = 2 ^ (j + k) := by
    intro k
    induction k with
    | zero => intro j _; rw [bits8_zero, Nat.add_zero]
    | succ k ih =>
      intro j hj
      rw [bits8_succ, ih j (by omega)]
      have hp : 2 ^ (j + k) < 2 ^ 31 := Nat.pow_lt_pow_right (by omega) (by omega)
      rw [bit_low (by omega), ← Nat.pow_succ', Nat.add_succ]
  rw [go k (31 - k) (by omega), show 31 - k + k = 31 by omega]

theorem byte_xor {s t c : Nat} (hs : s < 4294967296) (ht : t < 4294967296) (hc : c < 256) : byte (s ^^^ t) c = byte s c ^^^ bits8 8 t := by
  rw [byte_eq, byte_eq, Nat.xor_assoc, Nat.xor_comm t, ← Nat.xor_assoc, bits8_xor 8 (xor_lt32 hs (by omega)) ht]

theorem run_xor (l : List Nat) (hl : ∀ c ∈ l, c < 256) : ∀ s t, s < 4294967296 → t < 4294967296 → run (s ^^^ t) l = run s l ^^^ bits8 (8 * l.length) t := by
  induction l with
  | nil => intro s t _ _; rw [run_nil, run_nil]; rw [List.length_nil, Nat.mul_zero, bits8_zero]
  | cons c l ih =>
    intro s t hs ht
    have hc := hl c (by simp)
    rw [run_cons, run_cons, byte_xor hs ht hc, ih (fun d hd => hl d (by simp [hd])) _ _ (byte_lt hs hc) (bits8_lt 8 ht), ← bits8_add, List.length_cons, Nat.mul_succ]

theorem byte_flip {s c f : Nat} (hs : s < 4294967296) (hc : c < 256) (hf : f < 256) : byte s (c ^^^ f) = byte s c ^^^ bits8 8 (f * 16777216) := by
  have e : (c ^^^ f) * 16777216 = c * 16777216 ^^^ f * 16777216 := by
    have := Nat.shiftLeft_xor_distrib (a := c) (b := f) (i := 24)
    simpa [Nat.shiftLeft_eq] using this
  rw [byte_eq, byte_eq, e, ← Nat.xor_assoc, bits8_xor 8 (xor_lt32 hs (by omega)) (by omega)]

/-- One bit turned. -/
def flip (l : List Nat) (p : Nat) : List Nat := l.set (p / 8) (l.getD (p / 8) 0 ^^^ 128 / 2 ^ (p % 8))

theorem flip_length (l : List Nat) (p : Nat) : (flip l p).length = l.length := by unfold flip; simp

theorem pow128 {r : Nat} (h : r < 8) : 128 / 2 ^ r = 2 ^ (7 - r) ∧ 2 ^ (7 - r) < 256 ∧ 2 ^ (7 - r) * 16777216 = 2 ^ (31 - r) := by
  match r, h with
  | 0, _ | 1, _ | 2, _ | 3, _ | 4, _ | 5, _ | 6, _ | 7, _ => decide

theorem flip_bytes {l : List Nat} {p : Nat} (hl : ∀ c ∈ l, c < 256) : ∀ c ∈ flip l p, c < 256 := by
  intro c hc
  unfold flip at hc
  rcases List.mem_or_eq_of_mem_set hc with h | h
  · exact hl c h
  · obtain ⟨e, h1, _⟩ := pow128 (Nat.mod_lt p (show 0 < 8 by omega))
    rw [h, e]
    refine Nat.xor_lt_two_pow (n := 8) ?_ h1
    by_cases hi : p / 8 < l.length
    · rw [List.getD_eq_getElem?_getD, List.getElem?_eq_getElem hi]; exact hl _ (List.getElem_mem hi)
    · rw [List.getD_eq_getElem?_getD, List.getElem?_eq_none (by omega)]; decide

theorem run_flip {l : List Nat} (hl : ∀ c ∈ l, c < 256) {p : Nat} (hp : p < 8 * l.length) {s : Nat} (hs : s < 4294967296) :
    run s (flip l p) = run s l ^^^ bits8 (8 * l.length - p) 2147483648 := by
  have hq : p / 8 < l.length := by omega
  obtain ⟨e, h1, h2⟩ := pow128 (Nat.mod_lt p (show 0 < 8 by omega))
  have hsplit : l = l.take (p / 8) ++ l[p / 8] :: l.drop (p / 8 + 1) := by simp
  have hflip : flip l p = l.take (p / 8) ++ (l[p / 8] ^^^ 2 ^ (7 - p % 8)) :: l.drop (p / 8 + 1) := by
    unfold flip
    rw [List.set_eq_take_append_cons_drop, if_pos hq, List.getD_eq_getElem?_getD, List.getElem?_eq_getElem hq, e]
    rfl
  have hx := hl _ (List.getElem_mem hq)
  have hA : ∀ c ∈ l.take (p / 8), c < 256 := fun c hc => hl c (List.mem_of_mem_take hc)
  have hB : ∀ c ∈ l.drop (p / 8 + 1), c < 256 := fun c hc => hl c (List.mem_of_mem_drop hc)
  have hr := run_lt _ hA s hs
  rw [hflip, run_append, run_cons, byte_flip hr hx h1, run_xor _ hB _ _ (byte_lt hr hx) (bits8_lt 8 (by omega)), ← run_cons, ← run_append, ← hsplit, ← bits8_add, h2]
  congr 1
  have hlen : (l.drop (p / 8 + 1)).length = l.length - (p / 8 + 1) := List.length_drop
  rw [hlen, show 8 * (l.length - (p / 8 + 1)) + 8 = (8 * l.length - p) + p % 8 by omega, bits8_add, bits8_pow _ (by omega)]

/-- What the first j bits of a burst turn, as a word. -/
def word (b : Nat) : Nat → Nat
  | 0 => 0
  | j + 1 => if b.testBit j then word b j ^^^ 2 ^ (31 - j) else word b j

theorem word_lt (b : Nat) : ∀ j, word b j < 4294967296
  | 0 => by unfold word; omega
  | j + 1 => by
    have := word_lt b j
    unfold word
    split
    · exact xor_lt32 this (Nat.pow_lt_pow_right (a := 2) (m := 31 - j) (n := 32) (by omega) (by omega))
    · exact this

theorem word_bit (b : Nat) : ∀ j, j ≤ 32 → ∀ i, i < 32 → (word b j).testBit (31 - i) = (decide (i < j) && b.testBit i)
  | 0, _, i, _ => by unfold word; simp
  | j + 1, hj, i, hi => by
    have ih := word_bit b j (by omega) i hi
    unfold word
    by_cases hb : b.testBit j
    · rw [if_pos hb, Nat.testBit_xor, ih, Nat.testBit_two_pow]
      by_cases hij : i = j
      · subst hij; simp [hb]
      · have h1 : decide (31 - j = 31 - i) = false := by simp; omega
        rw [h1, Bool.xor_false]
        congr 1
        apply decide_eq_decide.2; omega
    · rw [if_neg hb, ih]
      by_cases hij : i = j
      · subst hij; simp [hb]
      · congr 1
        apply decide_eq_decide.2; omega

theorem word_ne {b : Nat} (h0 : b ≠ 0) (h : b < 4294967296) : word b 32 ≠ 0 := by
  intro e
  obtain ⟨i, hi⟩ := Nat.exists_testBit_of_ne_zero h0
  have hi32 : i < 32 := by
    rcases Nat.lt_or_ge i 32 with h' | h'
    · exact h'
    · have hp : 2 ^ 32 ≤ 2 ^ i := Nat.pow_le_pow_right (by omega) h'
      rw [Nat.testBit_lt_two_pow (by omega)] at hi
      cases hi
  have := word_bit b 32 (by omega) i hi32
  rw [e, hi] at this
  simp at this
  omega

/-- Behind j bits of the burst. -/
def Turned (l : List Nat) (at' b j : Nat) (m : List Nat) : Prop :=
  m.length = l.length ∧ (∀ c ∈ m, c < 256) ∧ run 4294967295 m = run 4294967295 l ^^^ bits8 (8 * l.length - at') (word b j)

theorem turned_start {l : List Nat} (hl : ∀ c ∈ l, c < 256) (p b : Nat) : Turned l p b 0 l := by
  refine ⟨rfl, hl, ?_⟩
  have : bits8 (8 * l.length - p) (word b 0) = 0 := by
    unfold word
    generalize 8 * l.length - p = k
    induction k with
    | zero => rw [bits8_zero]
    | succ k ih => rw [bits8_succ, ih, bit_low (by omega)]
  rw [this, Nat.xor_zero]

theorem turned_no {l m : List Nat} {p b j : Nat} (h : Turned l p b j m) (hb : b.testBit j = false) : Turned l p b (j + 1) m := by
  obtain ⟨h1, h2, h3⟩ := h
  refine ⟨h1, h2, ?_⟩
  rw [h3]
  have : word b (j + 1) = word b j := by
    show (if b.testBit j then word b j ^^^ 2 ^ (31 - j) else word b j) = word b j
    rw [hb]; rfl
  rw [this]

theorem turned_yes {l m : List Nat} {p b j : Nat} (h : Turned l p b j m) (hb : b.testBit j = true) (hj : j < 32) (hp : p + 32 ≤ 8 * l.length) : Turned l p b (j + 1) (flip m (p + j)) := by
  obtain ⟨h1, h2, h3⟩ := h
  refine ⟨by rw [flip_length, h1], flip_bytes h2, ?_⟩
  have hw : word b (j + 1) = word b j ^^^ 2 ^ (31 - j) := by
    show (if b.testBit j then word b j ^^^ 2 ^ (31 - j) else word b j) = _
    rw [hb]; rfl
  rw [run_flip h2 (by omega) (by omega), h3, hw, bits8_xor _ (word_lt b j) (Nat.pow_lt_pow_right (a := 2) (m := 31 - j) (n := 32) (by omega) (by omega)), ← Nat.xor_assoc, h1]
  congr 1
  rw [show 8 * l.length - p = (8 * l.length - (p + j)) + j by omega, bits8_add, bits8_pow j (by omega)]

theorem turned_end {l m : List Nat} {p b : Nat} (h : Turned l p b 32 m) (h0 : b ≠ 0) (hb : b < 4294967296) : sum l ≠ sum m := by
  obtain ⟨_, h2, h3⟩ := h
  intro e
  rw [sum_eq, sum_eq, h3] at e
  have hne := bits8_ne (8 * l.length - p) (word_lt b 32) (word_ne h0 hb)
  generalize run 4294967295 l = x at e
  generalize bits8 (8 * l.length - p) (word b 32) = y at e hne
  apply hne
  have e2 : (x ^^^ 4294967295) ^^^ 4294967295 = (x ^^^ y ^^^ 4294967295) ^^^ 4294967295 := by rw [e]
  rw [Nat.xor_assoc, Nat.xor_self, Nat.xor_zero, Nat.xor_assoc, Nat.xor_self, Nat.xor_zero] at e2
  have e3 : x ^^^ x = x ^^^ (x ^^^ y) := by rw [← e2]
  rw [Nat.xor_self, ← Nat.xor_assoc, Nat.xor_self, Nat.zero_xor] at e3
  exact e3.symm
end Crc
end Go.Proofs.Ytiadbapelkagiaa

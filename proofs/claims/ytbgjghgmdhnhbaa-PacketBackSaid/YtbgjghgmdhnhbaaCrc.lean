/-
Plain mathematics of the check sum. No program is named here.
-/
namespace Go.Proofs.Ytbgjghgmdhnhbaa
namespace Crc

/-- One of a byte's eight steps. -/
def bit (s : Nat) : Nat := if s < 2147483648 then 2 * s else (2 * s - 4294967296) ^^^ 79764919
def bits8 : Nat → Nat → Nat
  | 0, s => s
  | k + 1, s => bit (bits8 k s)
/-- The sum behind one more byte. -/
def byte (s c : Nat) : Nat := bits8 8 (s ^^^ (c * 16777216))
def run (s : Nat) (l : List Nat) : Nat := l.foldl byte s
def sum (l : List Nat) : Nat := run 4294967295 l ^^^ 4294967295

theorem xor_lt32 {a b : Nat} (ha : a < 4294967296) (hb : b < 4294967296) : a ^^^ b < 4294967296 := Nat.xor_lt_two_pow (n := 32) ha hb
theorem bit_lt {s : Nat} (h : s < 4294967296) : bit s < 4294967296 := by
  unfold bit; split
  · omega
  · exact xor_lt32 (by omega) (by omega)
theorem bits8_lt (k : Nat) {s : Nat} (h : s < 4294967296) : bits8 k s < 4294967296 := by
  induction k with
  | zero => exact h
  | succ k ih => exact bit_lt ih
theorem byte_lt {s c : Nat} (h : s < 4294967296) (hc : c < 256) : byte s c < 4294967296 := bits8_lt 8 (xor_lt32 h (by omega))
theorem run_nil (s : Nat) : run s [] = s := by unfold run; rw [List.foldl_nil]
theorem run_cons (s c : Nat) (l : List Nat) : run s (c :: l) = run (byte s c) l := by unfold run; rw [List.foldl_cons]
theorem run_one (s c : Nat) : run s [c] = byte s c := by rw [run_cons, run_nil]
theorem run_lt (l : List Nat) (hl : ∀ c ∈ l, c < 256) : ∀ s, s < 4294967296 → run s l < 4294967296 := by
  induction l with
  | nil => intro s h; rw [run_nil]; exact h
  | cons c l ih =>
    intro s h
    rw [run_cons]
    exact ih (fun d hd => hl d (by simp [hd])) (byte s c) (byte_lt h (hl c (by simp)))
theorem run_append (s : Nat) (a b : List Nat) : run s (a ++ b) = run (run s a) b := by unfold run; rw [List.foldl_append]
theorem run_take (s : Nat) (l : List Nat) (k : Nat) (h : k < l.length) : run s (l.take (k + 1)) = byte (run s (l.take k)) l[k] := by
  rw [List.take_succ_eq_append_getElem h, run_append, run_one]
theorem sum_lt {l : List Nat} (hl : ∀ c ∈ l, c < 256) : sum l < 4294967296 := xor_lt32 (run_lt l hl _ (by omega)) (by omega)
theorem text : sum [49, 50, 51, 52, 53, 54, 55, 56, 57] = 4236843288 := by decide +kernel
theorem run_snoc (s c : Nat) (l : List Nat) : run s (l ++ [c]) = byte (run s l) c := by rw [run_append, run_one]
theorem bits8_zero (s : Nat) : bits8 0 s = s := rfl
theorem bits8_succ (k s : Nat) : bits8 (k + 1) s = bit (bits8 k s) := rfl
theorem byte_eq (s c : Nat) : byte s c = bits8 8 (s ^^^ (c * 16777216)) := rfl
theorem sum_eq (l : List Nat) : sum l = run 4294967295 l ^^^ 4294967295 := rfl
theorem bit_low {t : Nat} (h : t < 2147483648) : bit t = 2 * t := by unfold bit; rw [if_pos h]
theorem bit_high {t : Nat} (h : ¬ t < 2147483648) : bit t = (2 * t - 4294967296) ^^^ 79764919 := by unfold bit; rw [if_neg h]
attribute [irreducible] bit bits8 byte run sum
end Crc
end Go.Proofs.Ytbgjghgmdhnhbaa

/-
Plain mathematics of the check sum. No program is named here.
The calls of package crc: a step, the sum of pieces, the sum.
The sum of bytes, by package crc and by the document's own function; both are Crc.sum.
-/
import Derived.Test.YtgnfachjobohoaaGreatRows
import Derived.WalkKit
import Derived.WalkSpells
import Derived.WalkLawsBesides
import Derived.Lib.Hide
namespace Go.Proofs.YtgnfachjobohoaaGreat
namespace Crc

/-- One of a byte's eight steps. -/
def bit (s : Nat) : Nat := if s < 2147483648 then 2 * s else (2 * s - 4294967296) ^^^ 79764919
def bits8 : Nat → Nat → Nat
  | 0, s => s
  | k + 1, s => bit (bits8 k s)
/-- The sum behind one more byte. -/
def byte (s c : Nat) : Nat := bits8 8 (s ^^^ (c * 16777216))
def run (s : Nat) (l : List Nat) : Nat := l.foldl byte s
def sum (l : List Nat) : Nat := run 4294967295 l ^^^ 4294967295

theorem xor_lt32 {a b : Nat} (ha : a < 4294967296) (hb : b < 4294967296) : a ^^^ b < 4294967296 := Nat.xor_lt_two_pow (n := 32) ha hb
theorem bit_lt {s : Nat} (h : s < 4294967296) : bit s < 4294967296 := by
  unfold bit; split
  · omega
  · exact xor_lt32 (by omega) (by omega)
theorem bits8_lt (k : Nat) {s : Nat} (h : s < 4294967296) : bits8 k s < 4294967296 := by
  induction k with
  | zero => exact h
  | succ k ih => exact bit_lt ih
theorem byte_lt {s c : Nat} (h : s < 4294967296) (hc : c < 256) : byte s c < 4294967296 := bits8_lt 8 (xor_lt32 h (by omega))
theorem run_nil (s : Nat) : run s [] = s := by unfold run; rw [List.foldl_nil]
theorem run_cons (s c : Nat) (l : List Nat) : run s (c :: l) = run (byte s c) l := by unfold run; rw [List.foldl_cons]
theorem run_one (s c : Nat) : run s [c] = byte s c := by rw [run_cons, run_nil]
theorem run_lt (l : List Nat) (hl : ∀ c ∈ l, c < 256) : ∀ s, s < 4294967296 → run s l < 4294967296 := by
  induction l with
  | nil => intro s h; rw [run_nil]; exact h
  | cons c l ih =>
    intro s h
    rw [run_cons]
    exact ih (fun d hd => hl d (by simp [hd])) (byte s c) (byte_lt h (hl c (by simp)))
theorem run_append (s : Nat) (a b : List Nat) : run s (a ++ b) = run (run s a) b := by unfold run; rw [List.foldl_append]
theorem run_take (s : Nat) (l : List Nat) (k : Nat) (h : k < l.length) : run s (l.take (k + 1)) = byte (run s (l.take k)) l[k] := by
  rw [List.take_succ_eq_append_getElem h, run_append, run_one]
theorem sum_lt {l : List Nat} (hl : ∀ c ∈ l, c < 256) : sum l < 4294967296 := xor_lt32 (run_lt l hl _ (by omega)) (by omega)
theorem text : sum [49, 50, 51, 52, 53, 54, 55, 56, 57] = 4236843288 := by decide +kernel
theorem run_snoc (s c : Nat) (l : List Nat) : run s (l ++ [c]) = byte (run s l) c := by rw [run_append, run_one]
theorem bits8_zero (s : Nat) : bits8 0 s = s := rfl
theorem bits8_succ (k s : Nat) : bits8 (k + 1) s = bit (bits8 k s) := rfl
theorem byte_eq (s c : Nat) : byte s c = bits8 8 (s ^^^ (c * 16777216)) := rfl
theorem sum_eq (l : List Nat) : sum l = run 4294967295 l ^^^ 4294967295 := rfl
theorem bit_low {t : Nat} (h : t < 2147483648) : bit t = 2 * t := by unfold bit; rw [if_pos h]
theorem bit_high {t : Nat} (h : ¬ t < 2147483648) : bit t = (2 * t - 4294967296) ^^^ 79764919 := by unfold bit; rw [if_neg h]
attribute [irreducible] bit bits8 byte run sum
end Crc
end Go.Proofs.YtgnfachjobohoaaGreat
namespace Go.Proofs.YtgnfachjobohoaaGreat
open Go.RowKit

theorem ret_u32 {a b : Int} (h : a = b) : Ending.returned (.int .u32 a) = .returned (.int .u32 b) := by rw [h]
theorem xor32 {a b : Nat} (ha : a < 4294967296) (hb : b < 4294967296) : bits .xor .u32 (a : Int) (b : Int) = ((a ^^^ b : Nat) : Int) := u32_xor_nat a b ha hb

theorem bit_low {t : Nat} (h : t < 2147483648) : ((2 * t : Nat) : Int) = (Crc.bit t : Nat) := by rw [Crc.bit_low h]
theorem bit_high {t : Nat} (h : ¬ t < 2147483648) (h2 : t < 4294967296) : bits .xor .u32 ((2 * t - 4294967296 : Nat) : Int) 79764919 = (Crc.bit t : Nat) := by
  rw [Crc.bit_high h]
  exact xor32 (a := 2 * t - 4294967296) (b := 79764919) (by omega) (by omega)

/-- Behind k of a byte's steps. -/
def Steps (z k : Nat) (x : Value) : Prop := x = .int .u32 (Crc.bits8 k z : Nat)

set_option maxHeartbeats 400000 in
theorem step_any (s c : Nat) (hs : s < 4294967296) (hc : c < 256) (w : World) :
    Calls Tryz.prog 107 #[.int .u32 (s : Nat), .int .u8 (c : Nat)] w fun e w' => e = .returned (.int .u32 (Crc.byte s c : Nat)) ∧ w = w' := by
  have h1 : (s : Int) < 4294967296 := by omega
  have h2 : (c : Int) < 256 := by omega
  obtain ⟨z, hz⟩ : ∃ z, z = s ^^^ (c * 16777216) := ⟨_, rfl⟩
  have h0 : Hid (bits .xor .u32 (s : Int) ((c : Int) * 16777216) = (z : Nat)) := Lib.hid (by
    have := xor32 (a := s) (b := c * 16777216) hs (by omega)
    rw [hz, ← this]; rfl)
  have HL0 : Hid (z < 4294967296) := Lib.hid (by rw [hz]; exact Crc.xor_lt32 hs (by omega))
  have hfin : Hid (Crc.bits8 8 z = Crc.byte s c) := Lib.hid (by rw [hz, Crc.byte_eq])
  clear hz hs hc
  go_enter Tryz.func107, Tryz.ntmps107
  go_wp2_with fail
  go_loop [0, 11] (fun x i => ∃ k : Nat, k ≤ 8 ∧ i = .int .i64 k ∧ Steps z k x) (fun _ i => 8 - (intOf i).toNat)
  case atStart => exact ⟨0, Nat.zero_le _, rfl, by unfold Steps; rw [h0.out, Crc.bits8_zero]⟩
  case round =>
    obtain ⟨k, hk, rfl, hx⟩ := hrel
    unfold Steps at hx
    subst hx
    by_cases hlt : k < 8
    · have hlt' : (k : Int) < 8 := by omega
      have ht := Crc.bits8_lt k HL0.out
      obtain ⟨t, e⟩ : ∃ t, t = Crc.bits8 k z := ⟨_, rfl⟩
      have hn : Hid (Crc.bits8 (k + 1) z = Crc.bit t) := Lib.hid (by rw [e, Crc.bits8_succ])
      rw [← e] at ht ⊢
      clear e
      have ht' : (t : Int) < 4294967296 := by omega
      by_cases hb : t < 2147483648
      · have hf : (((t : Int) / 2147483648) == 1) = false := by rw [beq_eq_false_iff_ne]; omega
        have hb' : (t : Int) < 2147483648 := by omega
        have B := Lib.hid (bit_low hb)
        clear hb ht
        go_wp2
        go_round
        case rel => exact ⟨k + 1, by omega, by go_num, by unfold Steps; rw [hn.out, ← B.out]; go_num⟩
        case measure => simp [intOf]; omega
      · have hf : (((t : Int) / 2147483648) == 1) = true := by rw [beq_iff_eq]; omega
        have hb' : ¬ (t : Int) < 2147483648 := by omega
        have B := Lib.hid (bit_high hb (by omega))
        clear hb ht
        go_wp2
        go_round
        case rel => exact ⟨k + 1, by omega, by go_num, by unfold Steps; rw [hn.out, ← B.out, show ((2 * t - 4294967296 : Nat) : Int) = (t : Int) * 2 % 4294967296 by omega]⟩
        case measure => simp [intOf]; omega
    · obtain rfl : k = 8 := by omega
      go_wp2
      go_ret
      exact ⟨ret_u32 (by rw [hfin.out]), rfl⟩

/-- A slice of bytes in memory. -/
def Bytes (w : World) (v : Value) (l : List Nat) : Prop :=
  (∀ c ∈ l, c < 256) ∧ ∃ a c, v = .slice a l.length c ∧ (l = [] ∨ ∃ b off, a = some ⟨b, off, none⟩ ∧ b < w.heap.size ∧ ∀ i, (h : i < l.length) → w.cell? ⟨b, off + i, none⟩ = some (.int .u8 (l[i] : Nat)))

/-- A slice of such slices. -/
def Rows' (w : World) (v : Value) (ls : List (List Nat)) : Prop :=
  ∃ a c, ∃ vs : List Value, ∃ hv : vs.length = ls.length, v = .slice a ls.length c ∧
    (ls = [] ∨ ∃ b off, a = some ⟨b, off, none⟩ ∧ ∀ i, (h : i < vs.length) → w.cell? ⟨b, off + i, none⟩ = some vs[i]) ∧ ∀ i, (h : i < ls.length) → Bytes w (vs[i]'(by omega)) ls[i]

theorem Bytes.below {w w' : World} {v : Value} {l : List Nat} (h : Bytes w v l) (hb : Below w.heap.size w w') : Bytes w' v l := by
  obtain ⟨h1, a, c, rfl, h⟩ := h
  refine ⟨h1, a, c, rfl, h.imp id ?_⟩
  rintro ⟨b, off, rfl, hlt, hc⟩
  exact ⟨b, off, rfl, Nat.lt_of_lt_of_le hlt hb.size, fun i hi => by rw [hb.cell (p := ⟨b, off + i, none⟩) hlt]; exact hc i hi⟩

theorem flat_take (ls : List (List Nat)) (k : Nat) (h : k < ls.length) : (ls.take (k + 1)).flatten = (ls.take k).flatten ++ ls[k] := by
  rw [List.take_succ_eq_append_getElem h, List.flatten_append]; simp

/-- The sum so far, behind k lists, and j bytes of the next one. -/
def FarC (ls : List (List Nat)) (k j : Nat) (x : Value) : Prop := x = .int .u32 (Crc.run 4294967295 ((ls.take k).flatten ++ (ls.getD k []).take j) : Nat)

theorem far_start (ls : List (List Nat)) : FarC ls 0 0 (.int .u32 4294967295) := by
  unfold FarC; rw [List.take_zero, List.take_zero]; simp [Crc.run_nil]
theorem far_next {ls : List (List Nat)} {k : Nat} {x : Value} (hk : k < ls.length) (h : FarC ls k ls[k].length x) : FarC ls (k + 1) 0 x := by
  unfold FarC at *
  rw [h, flat_take ls k hk, List.take_zero, List.append_nil, List.getD_eq_getElem?_getD, List.getElem?_eq_getElem hk, Option.getD_some, List.take_length]
theorem far_step {ls : List (List Nat)} {k j : Nat} (hk : k < ls.length) (hj : j < ls[k].length) :
    FarC ls k (j + 1) (.int .u32 (Crc.byte (Crc.run 4294967295 ((ls.take k).flatten ++ (ls.getD k []).take j)) ls[k][j] : Nat)) := by
  unfold FarC
  rw [List.getD_eq_getElem?_getD, List.getElem?_eq_getElem hk, Option.getD_some, List.take_succ_eq_append_getElem hj, ← List.append_assoc, Crc.run_snoc]

set_option maxHeartbeats 800000 in
theorem cjoin_any (v : Value) (ls : List (List Nat)) (w : World) (hr : Rows' w v ls) (hl : ls.length ≤ 9223372036854775807) (hls : ∀ l ∈ ls, l.length ≤ 9223372036854775807) :
    Calls Tryz.prog 101 #[v] w fun e w' => e = .returned (.int .u32 (Crc.sum ls.flatten : Nat)) ∧ w = w' := by
  obtain ⟨a, c, vs, hv, rfl, hcell, hrow⟩ := hr
  have HC := Lib.hid hcell
  have HR := Lib.hid hrow
  have HS := Lib.hid hls
  have hbytes : ∀ l ∈ ls, ∀ x ∈ l, x < 256 := by
    intro l hl x hx
    obtain ⟨i, hi, rfl⟩ := List.getElem_of_mem hl
    exact (hrow i hi).1 x hx
  have HBY := Lib.hid hbytes
  have hst := Lib.hid (far_start ls)
  have hz : Hid (vs.length = ls.length) := Lib.hid hv
  clear hcell hrow hls hbytes
  go_enter Tryz.func101, Tryz.ntmps101
  go_wp2_with fail
  go_loop [3, 10] (fun x i => ∃ k : Nat, k ≤ ls.length ∧ i = .int .i64 k ∧ FarC ls k 0 x) (fun _ i => ls.length - (intOf i).toNat)
  case atStart => exact ⟨0, Nat.zero_le _, rfl, hst.out⟩
  case round =>
    obtain ⟨k, hk, rfl, hx⟩ := hrel
    by_cases hlt : k < ls.length
    · have hk2 : k < vs.length := by have := hz.out; omega
      have hc : ∃ b off, a = some ⟨b, off, none⟩ ∧ w.cell? ⟨b, off + k, none⟩ = some vs[k] := by
        rcases HC.out with rfl | ⟨b, off, ha, hc⟩
        · simp at hlt
        · exact ⟨b, off, ha, hc k hk2⟩
      obtain ⟨b, off, rfl, hc⟩ := hc
      obtain ⟨hby, a1, c1, e1, hin⟩ := HR.out k hlt
      rw [e1] at hc
      have HIN := Lib.hid hin
      have hle : ls[k].length ≤ 9223372036854775807 := HS.out _ (List.getElem_mem hlt)
      have HX := Lib.hid hx
      clear hin e1 hby hx
      go_wp2_with fail
      go_loop [3, 16] (fun x i => ∃ j : Nat, j ≤ ls[k].length ∧ i = .int .i64 j ∧ FarC ls k j x) (fun _ i => ls[k].length - (intOf i).toNat)
      case atStart => exact ⟨0, Nat.zero_le _, rfl, HX.out⟩
      case round =>
        obtain ⟨j, hj, rfl, hx⟩ := hrel
        by_cases hlj : j < ls[k].length
        · obtain ⟨b1, off1, ha1, hb1, hc1⟩ := HIN.out.resolve_left (by intro e; rw [e] at hlj; simp at hlj)
          subst ha1
          have hd := hc1 j hlj
          have hstep := Lib.hid (far_step hlt hlj)
          have hb256 : Hid (ls[k][j] < 256) := Lib.hid (HBY.out _ (List.getElem_mem hlt) _ (List.getElem_mem hlj))
          unfold FarC at hx
          have hs32 : Hid (Crc.run 4294967295 ((ls.take k).flatten ++ (ls.getD k []).take j) < 4294967296) := Lib.hid (Crc.run_lt _ (by
            intro y hy
            rw [List.mem_append] at hy
            rcases hy with hy | hy
            · obtain ⟨l, hl1, hl2⟩ := List.mem_flatten.1 hy
              exact HBY.out l (List.mem_of_mem_take hl1) y hl2
            · rw [List.getD_eq_getElem?_getD, List.getElem?_eq_getElem hlt, Option.getD_some] at hy
              exact HBY.out _ (List.getElem_mem hlt) y (List.mem_of_mem_take hy)) _ (by omega))
          subst hx
          clear hc1 hb1
          obtain ⟨z, hz'⟩ : ∃ z, z = Crc.run 4294967295 ((ls.take k).flatten ++ (ls.getD k []).take j) := ⟨_, rfl⟩
          rw [← hz'] at hs32 hstep ⊢
          clear hz'
          go_wp2_with (go_at_call 107; refine (step_any _ _ hs32.out hb256.out _).mono ?_; rintro e w' ⟨rfl, rfl⟩)
          go_round
          case rel => exact ⟨j + 1, by omega, by go_num, hstep.out⟩
          case measure => simp [intOf]; omega
        · obtain rfl : j = ls[k].length := by omega
          have HN := Lib.hid (far_next hlt hx)
          clear hx
          go_wp2_with fail
          go_round
          case rel => exact ⟨k + 1, by omega, by go_num, HN.out⟩
          case measure => simp [intOf]; omega
    · obtain rfl : k = ls.length := by omega
      unfold FarC at hx
      have he : (ls.getD ls.length []).take 0 = [] := rfl
      rw [List.take_length, he, List.append_nil] at hx
      subst hx
      have hs32 : Crc.run 4294967295 ls.flatten < 4294967296 := Crc.run_lt _ (by
        intro y hy
        obtain ⟨l, hl1, hl2⟩ := List.mem_flatten.1 hy
        exact HBY.out l hl1 y hl2) _ (by omega)
      have hx : Hid (bits .xor .u32 (Crc.run 4294967295 ls.flatten : Nat) 4294967295 = (Crc.sum ls.flatten : Nat)) := Lib.hid (by
        rw [Crc.sum_eq]; exact xor32 (b := 4294967295) hs32 (by omega))
      clear hs32 he
      go_wp2_with fail
      go_ret
      exact ⟨ret_u32 hx.out, rfl⟩
end Go.Proofs.YtgnfachjobohoaaGreat
namespace Go.Proofs.YtgnfachjobohoaaGreat
open Go.RowKit

theorem rows_one {w : World} {v : Value} {l : List Nat} (h : Bytes w v l) : Rows' (w.alloc (.cells #[v] 28)) (.slice (some ⟨w.heap.size, 0, none⟩) 1 1) [l] := by
  have hb : Bytes (w.alloc (.cells #[v] 28)) v l := h.below ((Below.refl _ _).alloc (Nat.le_refl _) _)
  refine ⟨_, 1, [v], rfl, rfl, Or.inr ⟨w.heap.size, 0, rfl, ?_⟩, ?_⟩
  · intro i hi
    obtain rfl : i = 0 := by simp at hi; omega
    go_simp
  · intro i hi
    obtain rfl : i = 0 := by simp at hi; omega
    exact hb

set_option maxHeartbeats 400000 in
theorem of_any (v : Value) (l : List Nat) (w : World) (hv : Bytes w v l) (hl : l.length ≤ 9223372036854775807) :
    Calls Tryz.prog 86 #[v] w fun e w' => e = .returned (.int .u32 (Crc.sum l : Nat)) ∧ Below w.heap.size w w' := by
  have HR := Lib.hid (rows_one hv)
  have hf : Hid ([l].flatten = l) := Lib.hid (by simp)
  obtain ⟨_, a, c, rfl, _⟩ := hv
  go_enter Tryz.func86, Tryz.ntmps86
  go_wp2_with fail
  refine (cjoin_any _ [l] _ HR.out (by simp) (by simpa using hl)).mono ?_
  rintro e w' ⟨rfl, rfl⟩
  rw [hf.out]
  go_wp2_with fail
  go_ret
  exact ⟨rfl, (Below.refl _ _).alloc (Nat.le_refl _) _⟩

theorem not32 {b : Nat} (h : b < 4294967296) : b ^^^ 4294967295 = 4294967295 - b := by
  apply Nat.eq_of_testBit_eq; intro i
  rw [Nat.testBit_xor, show (4294967295 : Nat) = 2 ^ 32 - 1 from rfl, Nat.testBit_two_pow_sub_one, show 2 ^ 32 - 1 - b = 2 ^ 32 - (b + 1) by omega, Nat.testBit_two_pow_sub_succ h]
  by_cases hi : i < 32
  · simp [hi]
  · simp only [hi, decide_false, Bool.false_and, Bool.xor_false]
    have hp : 2 ^ 32 ≤ 2 ^ i := Nat.pow_le_pow_right (by omega) (by omega)
    exact Nat.testBit_lt_two_pow (by omega)

theorem xor64 {a b : Nat} (ha : a < 4294967296) (hb : b < 4294967296) : bits .xor .u64 (a : Int) (b : Int) = ((a ^^^ b : Nat) : Int) := u64_xor_nat a b (by omega) (by omega)

/-- The document's sum behind j of the eight steps of a byte. -/
def RSteps (z k : Nat) (x : Value) : Prop := x = .int .u64 (Crc.bits8 k z : Nat)
/-- The document's sum behind j bytes. -/
def RFar (l : List Nat) (j : Nat) (x : Value) : Prop := x = .int .u64 (Crc.run 4294967295 (l.take j) : Nat)

theorem rbit_high {t : Nat} (h : ¬ t < 2147483648) (h2 : t < 4294967296) : bits .xor .u64 ((2 * t - 4294967296 : Nat) : Int) 79764919 = (Crc.bit t : Nat) := by
  rw [Crc.bit_high h]
  exact xor64 (a := 2 * t - 4294967296) (b := 79764919) (by omega) (by omega)

set_option maxHeartbeats 800000 in
theorem rof_any (v : Value) (l : List Nat) (w : World) (hv : Bytes w v l) (hl : l.length ≤ 9223372036854775807) :
    Calls Tryz.prog 78 #[v] w fun e w' => e = .returned (.int .u32 (Crc.sum l : Nat)) ∧ w = w' := by
  obtain ⟨h256, a, c, rfl, hcell⟩ := hv
  have HC := Lib.hid hcell
  have HY := Lib.hid h256
  have hst : Hid (RFar l 0 (.int .u64 4294967295)) := Lib.hid (by unfold RFar; rw [List.take_zero, Crc.run_nil]; rfl)
  clear hcell h256
  go_enter Tryz.func78, Tryz.ntmps78
  go_wp2_with fail
  go_loop [3, 4] (fun x i => ∃ j : Nat, j ≤ l.length ∧ i = .int .i64 j ∧ RFar l j x) (fun _ i => l.length - (intOf i).toNat)
  case atStart => exact ⟨0, Nat.zero_le _, rfl, hst.out⟩
  case round =>
    obtain ⟨j, hj, rfl, hx⟩ := hrel
    by_cases hlt : j < l.length
    · obtain ⟨b, off, ha, hb, hc⟩ := HC.out.resolve_left (by intro e; rw [e] at hlt; simp at hlt)
      subst ha
      have hd := hc j hlt
      unfold RFar at hx
      have hz0 : Crc.run 4294967295 (l.take j) < 4294967296 := Crc.run_lt _ (fun y hy => HY.out y (List.mem_of_mem_take hy)) _ (by omega)
      have hn : Hid (Crc.run 4294967295 (l.take (j + 1)) = Crc.byte (Crc.run 4294967295 (l.take j)) l[j]) := Lib.hid (Crc.run_take _ l j hlt)
      have hc256 := HY.out _ (List.getElem_mem hlt)
      subst hx
      obtain ⟨s, hs⟩ : ∃ s, s = Crc.run 4294967295 (l.take j) := ⟨_, rfl⟩
      rw [← hs] at hz0 hn ⊢
      obtain ⟨d, hd'⟩ : ∃ d, d = l[j] := ⟨_, rfl⟩
      rw [← hd'] at hd hc256 hn
      clear hs hd'
      obtain ⟨z, hz⟩ : ∃ z, z = s ^^^ (d * 16777216) := ⟨_, rfl⟩
      have h0 : Hid (bits .xor .u64 (s : Int) (16777216 * (d : Int)) = (z : Nat)) := Lib.hid (by
        have := xor64 (a := s) (b := d * 16777216) hz0 (by omega)
        rw [hz, ← this, Int.natCast_mul, Int.mul_comm]; rfl)
      have HL0 : Hid (z < 4294967296) := Lib.hid (by rw [hz]; exact Crc.xor_lt32 hz0 (by omega))
      have hfin : Hid (Crc.bits8 8 z = Crc.byte s d) := Lib.hid (by rw [hz, Crc.byte_eq])
      have hd256 : (d : Int) < 256 := by omega
      clear hz hz0 hc256 hc hb
      go_wp2_with fail
      go_loop [3, 5] (fun x i => ∃ k : Nat, k ≤ 8 ∧ i = .int .i64 k ∧ RSteps z k x) (fun _ i => 8 - (intOf i).toNat)
      case atStart => exact ⟨0, Nat.zero_le _, rfl, by unfold RSteps; rw [h0.out, Crc.bits8_zero]⟩
      case round =>
        obtain ⟨k, hk, rfl, hx⟩ := hrel
        unfold RSteps at hx
        subst hx
        by_cases hk8 : k < 8
        · have hlt' : (k : Int) < 8 := by omega
          have ht := Crc.bits8_lt k HL0.out
          obtain ⟨t, e⟩ : ∃ t, t = Crc.bits8 k z := ⟨_, rfl⟩
          have hn : Hid (Crc.bits8 (k + 1) z = Crc.bit t) := Lib.hid (by rw [e, Crc.bits8_succ])
          rw [← e] at ht ⊢
          clear e
          have ht' : (t : Int) < 4294967296 := by omega
          by_cases hb : t < 2147483648
          · have hb' : ¬ (4294967296 : Int) ≤ 2 * (t : Int) := by omega
            have B := Lib.hid (bit_low hb)
            clear hb ht
            go_wp2_with fail
            go_round
            case rel => exact ⟨k + 1, by omega, by go_num, by unfold RSteps; rw [hn.out, ← B.out]; go_num⟩
            case measure => simp [intOf]; omega
          · have hb' : (4294967296 : Int) ≤ 2 * (t : Int) := by omega
            have B := Lib.hid (rbit_high hb (by omega))
            have H1 : Hid (((2 * t - 4294967296 : Nat) : Int) = 2 * (t : Int) - 4294967296) := Lib.hid (by omega)
            clear hb ht
            go_wp2_with fail
            go_round
            case rel => exact ⟨k + 1, by omega, by go_num, by unfold RSteps; rw [hn.out, ← B.out, H1.out]⟩
            case measure => simp [intOf]; omega
        · obtain rfl : k = 8 := by omega
          rw [hfin.out]
          go_wp2_with fail
          go_round
          case rel => exact ⟨j + 1, by omega, by go_num, by unfold RFar; rw [hn.out]⟩
          case measure => simp [intOf]; omega
    · obtain rfl : j = l.length := by omega
      unfold RFar at hx
      rw [List.take_length] at hx
      subst hx
      have hs32 : Crc.run 4294967295 l < 4294967296 := Crc.run_lt _ HY.out _ (by omega)
      have hq : Hid (Crc.sum l = 4294967295 - Crc.run 4294967295 l) := Lib.hid (by rw [Crc.sum_eq, not32 hs32])
      obtain ⟨s, hs⟩ : ∃ s, s = Crc.run 4294967295 l := ⟨_, rfl⟩
      rw [← hs] at hs32 hq ⊢
      clear hs
      have hs' : (s : Int) < 4294967296 := by omega
      clear hs32
      go_wp2_with fail
      go_ret
      exact ⟨ret_u32 (by rw [hq.out]; omega), rfl⟩
end Go.Proofs.YtgnfachjobohoaaGreat

/-
The calls of package crc: a step, the sum of pieces, the sum.
-/
import Derived.Test.YtbgjghgmdhnhbaaRows
import Derived.Test.YtbgjghgmdhnhbaaCrc
import Derived.WalkKit
import Derived.WalkSpells
import Derived.WalkLawsBesides
import Derived.Lib.Hide
namespace Go.Proofs.Ytbgjghgmdhnhbaa
open Go.RowKit

theorem ret_u32 {a b : Int} (h : a = b) : Ending.returned (.int .u32 a) = .returned (.int .u32 b) := by rw [h]
theorem xor32 {a b : Nat} (ha : a < 4294967296) (hb : b < 4294967296) : bits .xor .u32 (a : Int) (b : Int) = ((a ^^^ b : Nat) : Int) := u32_xor_nat a b ha hb

theorem bit_low {t : Nat} (h : t < 2147483648) : ((2 * t : Nat) : Int) = (Crc.bit t : Nat) := by rw [Crc.bit_low h]
theorem bit_high {t : Nat} (h : ¬ t < 2147483648) (h2 : t < 4294967296) : bits .xor .u32 ((2 * t - 4294967296 : Nat) : Int) 79764919 = (Crc.bit t : Nat) := by
  rw [Crc.bit_high h]
  exact xor32 (a := 2 * t - 4294967296) (b := 79764919) (by omega) (by omega)

/-- Behind k of a byte's steps. -/
def Steps (z k : Nat) (x : Value) : Prop := x = .int .u32 (Crc.bits8 k z : Nat)

set_option maxHeartbeats 400000 in
theorem step_any (s c : Nat) (hs : s < 4294967296) (hc : c < 256) (w : World) :
    Calls Try.prog 68 #[.int .u32 (s : Nat), .int .u8 (c : Nat)] w fun e w' => e = .returned (.int .u32 (Crc.byte s c : Nat)) ∧ w = w' := by
  have h1 : (s : Int) < 4294967296 := by omega
  have h2 : (c : Int) < 256 := by omega
  obtain ⟨z, hz⟩ : ∃ z, z = s ^^^ (c * 16777216) := ⟨_, rfl⟩
  have h0 : Hid (bits .xor .u32 (s : Int) ((c : Int) * 16777216) = (z : Nat)) := Lib.hid (by
    have := xor32 (a := s) (b := c * 16777216) hs (by omega)
    rw [hz, ← this]; rfl)
  have HL0 : Hid (z < 4294967296) := Lib.hid (by rw [hz]; exact Crc.xor_lt32 hs (by omega))
  have hfin : Hid (Crc.bits8 8 z = Crc.byte s c) := Lib.hid (by rw [hz, Crc.byte_eq])
  clear hz hs hc
  go_enter Try.func68, Try.ntmps68
  go_wp2_with fail
  go_loop [0, 11] (fun x i => ∃ k : Nat, k ≤ 8 ∧ i = .int .i64 k ∧ Steps z k x) (fun _ i => 8 - (intOf i).toNat)
  case atStart => exact ⟨0, Nat.zero_le _, rfl, by unfold Steps; rw [h0.out, Crc.bits8_zero]⟩
  case round =>
    obtain ⟨k, hk, rfl, hx⟩ := hrel
    unfold Steps at hx
    subst hx
    by_cases hlt : k < 8
    · have hlt' : (k : Int) < 8 := by omega
      have ht := Crc.bits8_lt k HL0.out
      obtain ⟨t, e⟩ : ∃ t, t = Crc.bits8 k z := ⟨_, rfl⟩
      have hn : Hid (Crc.bits8 (k + 1) z = Crc.bit t) := Lib.hid (by rw [e, Crc.bits8_succ])
      rw [← e] at ht ⊢
      clear e
      have ht' : (t : Int) < 4294967296 := by omega
      by_cases hb : t < 2147483648
      · have hf : (((t : Int) / 2147483648) == 1) = false := by rw [beq_eq_false_iff_ne]; omega
        have hb' : (t : Int) < 2147483648 := by omega
        have B := Lib.hid (bit_low hb)
        clear hb ht
        go_wp2
        go_round
        case rel => exact ⟨k + 1, by omega, by go_num, by unfold Steps; rw [hn.out, ← B.out]; go_num⟩
        case measure => simp [intOf]; omega
      · have hf : (((t : Int) / 2147483648) == 1) = true := by rw [beq_iff_eq]; omega
        have hb' : ¬ (t : Int) < 2147483648 := by omega
        have B := Lib.hid (bit_high hb (by omega))
        clear hb ht
        go_wp2
        go_round
        case rel => exact ⟨k + 1, by omega, by go_num, by unfold Steps; rw [hn.out, ← B.out, show ((2 * t - 4294967296 : Nat) : Int) = (t : Int) * 2 % 4294967296 by omega]⟩
        case measure => simp [intOf]; omega
    · obtain rfl : k = 8 := by omega
      go_wp2
      go_ret
      exact ⟨ret_u32 (by rw [hfin.out]), rfl⟩

/-- A slice of bytes in memory. -/
def Bytes (w : World) (v : Value) (l : List Nat) : Prop :=
  (∀ c ∈ l, c < 256) ∧ ∃ a c, v = .slice a l.length c ∧ (l = [] ∨ ∃ b off, a = some ⟨b, off, none⟩ ∧ b < w.heap.size ∧ ∀ i, (h : i < l.length) → w.cell? ⟨b, off + i, none⟩ = some (.int .u8 (l[i] : Nat)))

/-- A slice of such slices. -/
def Rows' (w : World) (v : Value) (ls : List (List Nat)) : Prop :=
  ∃ a c, ∃ vs : List Value, ∃ hv : vs.length = ls.length, v = .slice a ls.length c ∧
    (ls = [] ∨ ∃ b off, a = some ⟨b, off, none⟩ ∧ ∀ i, (h : i < vs.length) → w.cell? ⟨b, off + i, none⟩ = some vs[i]) ∧ ∀ i, (h : i < ls.length) → Bytes w (vs[i]'(by omega)) ls[i]

theorem Bytes.below {w w' : World} {v : Value} {l : List Nat} (h : Bytes w v l) (hb : Below w.heap.size w w') : Bytes w' v l := by
  obtain ⟨h1, a, c, rfl, h⟩ := h
  refine ⟨h1, a, c, rfl, h.imp id ?_⟩
  rintro ⟨b, off, rfl, hlt, hc⟩
  exact ⟨b, off, rfl, Nat.lt_of_lt_of_le hlt hb.size, fun i hi => by rw [hb.cell (p := ⟨b, off + i, none⟩) hlt]; exact hc i hi⟩

theorem flat_take (ls : List (List Nat)) (k : Nat) (h : k < ls.length) : (ls.take (k + 1)).flatten = (ls.take k).flatten ++ ls[k] := by
  rw [List.take_succ_eq_append_getElem h, List.flatten_append]; simp

/-- The sum so far, behind k lists, and j bytes of the next one. -/
def Far (ls : List (List Nat)) (k j : Nat) (x : Value) : Prop := x = .int .u32 (Crc.run 4294967295 ((ls.take k).flatten ++ (ls.getD k []).take j) : Nat)

theorem far_start (ls : List (List Nat)) : Far ls 0 0 (.int .u32 4294967295) := by
  unfold Far; rw [List.take_zero, List.take_zero]; simp [Crc.run_nil]
theorem far_next {ls : List (List Nat)} {k : Nat} {x : Value} (hk : k < ls.length) (h : Far ls k ls[k].length x) : Far ls (k + 1) 0 x := by
  unfold Far at *
  rw [h, flat_take ls k hk, List.take_zero, List.append_nil, List.getD_eq_getElem?_getD, List.getElem?_eq_getElem hk, Option.getD_some, List.take_length]
theorem far_step {ls : List (List Nat)} {k j : Nat} (hk : k < ls.length) (hj : j < ls[k].length) :
    Far ls k (j + 1) (.int .u32 (Crc.byte (Crc.run 4294967295 ((ls.take k).flatten ++ (ls.getD k []).take j)) ls[k][j] : Nat)) := by
  unfold Far
  rw [List.getD_eq_getElem?_getD, List.getElem?_eq_getElem hk, Option.getD_some, List.take_succ_eq_append_getElem hj, ← List.append_assoc, Crc.run_snoc]

set_option maxHeartbeats 800000 in
theorem join_any (v : Value) (ls : List (List Nat)) (w : World) (hr : Rows' w v ls) (hl : ls.length ≤ 9223372036854775807) (hls : ∀ l ∈ ls, l.length ≤ 9223372036854775807) :
    Calls Try.prog 57 #[v] w fun e w' => e = .returned (.int .u32 (Crc.sum ls.flatten : Nat)) ∧ w = w' := by
  obtain ⟨a, c, vs, hv, rfl, hcell, hrow⟩ := hr
  have HC := Lib.hid hcell
  have HR := Lib.hid hrow
  have HS := Lib.hid hls
  have hbytes : ∀ l ∈ ls, ∀ x ∈ l, x < 256 := by
    intro l hl x hx
    obtain ⟨i, hi, rfl⟩ := List.getElem_of_mem hl
    exact (hrow i hi).1 x hx
  have HBY := Lib.hid hbytes
  have hst := Lib.hid (far_start ls)
  have hz : Hid (vs.length = ls.length) := Lib.hid hv
  clear hcell hrow hls hbytes
  go_enter Try.func57, Try.ntmps57
  go_wp2_with fail
  go_loop [3, 10] (fun x i => ∃ k : Nat, k ≤ ls.length ∧ i = .int .i64 k ∧ Far ls k 0 x) (fun _ i => ls.length - (intOf i).toNat)
  case atStart => exact ⟨0, Nat.zero_le _, rfl, hst.out⟩
  case round =>
    obtain ⟨k, hk, rfl, hx⟩ := hrel
    by_cases hlt : k < ls.length
    · have hk2 : k < vs.length := by have := hz.out; omega
      have hc : ∃ b off, a = some ⟨b, off, none⟩ ∧ w.cell? ⟨b, off + k, none⟩ = some vs[k] := by
        rcases HC.out with rfl | ⟨b, off, ha, hc⟩
        · simp at hlt
        · exact ⟨b, off, ha, hc k hk2⟩
      obtain ⟨b, off, rfl, hc⟩ := hc
      obtain ⟨hby, a1, c1, e1, hin⟩ := HR.out k hlt
      rw [e1] at hc
      have HIN := Lib.hid hin
      have hle : ls[k].length ≤ 9223372036854775807 := HS.out _ (List.getElem_mem hlt)
      have HX := Lib.hid hx
      clear hin e1 hby hx
      go_wp2_with fail
      go_loop [3, 16] (fun x i => ∃ j : Nat, j ≤ ls[k].length ∧ i = .int .i64 j ∧ Far ls k j x) (fun _ i => ls[k].length - (intOf i).toNat)
      case atStart => exact ⟨0, Nat.zero_le _, rfl, HX.out⟩
      case round =>
        obtain ⟨j, hj, rfl, hx⟩ := hrel
        by_cases hlj : j < ls[k].length
        · obtain ⟨b1, off1, ha1, hb1, hc1⟩ := HIN.out.resolve_left (by intro e; rw [e] at hlj; simp at hlj)
          subst ha1
          have hd := hc1 j hlj
          have hstep := Lib.hid (far_step hlt hlj)
          have hb256 : Hid (ls[k][j] < 256) := Lib.hid (HBY.out _ (List.getElem_mem hlt) _ (List.getElem_mem hlj))
          unfold Far at hx
          have hs32 : Hid (Crc.run 4294967295 ((ls.take k).flatten ++ (ls.getD k []).take j) < 4294967296) := Lib.hid (Crc.run_lt _ (by
            intro y hy
            rw [List.mem_append] at hy
            rcases hy with hy | hy
            · obtain ⟨l, hl1, hl2⟩ := List.mem_flatten.1 hy
              exact HBY.out l (List.mem_of_mem_take hl1) y hl2
            · rw [List.getD_eq_getElem?_getD, List.getElem?_eq_getElem hlt, Option.getD_some] at hy
              exact HBY.out _ (List.getElem_mem hlt) y (List.mem_of_mem_take hy)) _ (by omega))
          subst hx
          clear hc1 hb1
          obtain ⟨z, hz'⟩ : ∃ z, z = Crc.run 4294967295 ((ls.take k).flatten ++ (ls.getD k []).take j) := ⟨_, rfl⟩
          rw [← hz'] at hs32 hstep ⊢
          clear hz'
          go_wp2_with (go_at_call 68; refine (step_any _ _ hs32.out hb256.out _).mono ?_; rintro e w' ⟨rfl, rfl⟩)
          go_round
          case rel => exact ⟨j + 1, by omega, by go_num, hstep.out⟩
          case measure => simp [intOf]; omega
        · obtain rfl : j = ls[k].length := by omega
          have HN := Lib.hid (far_next hlt hx)
          clear hx
          go_wp2_with fail
          go_round
          case rel => exact ⟨k + 1, by omega, by go_num, HN.out⟩
          case measure => simp [intOf]; omega
    · obtain rfl : k = ls.length := by omega
      unfold Far at hx
      have he : (ls.getD ls.length []).take 0 = [] := rfl
      rw [List.take_length, he, List.append_nil] at hx
      subst hx
      have hs32 : Crc.run 4294967295 ls.flatten < 4294967296 := Crc.run_lt _ (by
        intro y hy
        obtain ⟨l, hl1, hl2⟩ := List.mem_flatten.1 hy
        exact HBY.out l hl1 y hl2) _ (by omega)
      have hx : Hid (bits .xor .u32 (Crc.run 4294967295 ls.flatten : Nat) 4294967295 = (Crc.sum ls.flatten : Nat)) := Lib.hid (by
        rw [Crc.sum_eq]; exact xor32 (b := 4294967295) hs32 (by omega))
      clear hs32 he
      go_wp2_with fail
      go_ret
      exact ⟨ret_u32 hx.out, rfl⟩
end Go.Proofs.Ytbgjghgmdhnhbaa

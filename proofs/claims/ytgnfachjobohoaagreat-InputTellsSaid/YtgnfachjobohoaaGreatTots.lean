/-
Package total, in a namespace of its own: what each call hands back; sums; the document's own.
-/
import Derived.Test.YtgnfachjobohoaaGreatRows
import Derived.Test.YtgnfachjobohoaaGreatNum
import Derived.WalkKit
import Derived.WalkSpells
import Derived.WalkLawsBesides
import Derived.Lib.Hide
import Derived.Deep.QuietTactic
import Derived.BigQuiet
namespace Go.Proofs.YtgnfachjobohoaaGreat
open Go.RowKit
namespace Tot

theorem call_frombits (b : Int) (w : World) : (callFunc 57 #[.int .u64 b]).run Tryz.prog w = .ok (.value (.float .f64 b.toNat)) w := by
  rw [run_callFunc_extern (f := 57) (fn := Tryz.f57) (e := Extern.MathFloatBits.float64frombits) (by kernel_rfl) (by kernel_rfl) (by kernel_rfl) (by kernel_rfl) (by kernel_rfl)]
  rfl
theorem call_bits (b : Nat) (w : World) : (callFunc 44 #[.float .f64 b]).run Tryz.prog w = .ok (.value (.int .u64 b)) w := by
  rw [run_callFunc_extern (f := 44) (fn := Tryz.f44) (e := Extern.MathFloatBits.float64bits) (by kernel_rfl) (by kernel_rfl) (by kernel_rfl) (by kernel_rfl) (by kernel_rfl)]
  rfl

theorem and_low {b : Nat} (h : b < 9223372036854775808) : (bits .and .u64 (b : Int) 9223372036854775808 == 0) = true := by
  have : bits .and .u64 (b : Int) 9223372036854775808 = 0 := by go_bits2
  rw [this]; rfl
theorem and_high {b : Nat} (h : ¬ b < 9223372036854775808) (h2 : b < 18446744073709551616) : (bits .and .u64 (b : Int) 9223372036854775808 == 0) = false := by
  have : bits .and .u64 (b : Int) 9223372036854775808 = 9223372036854775808 := by go_bits2
  rw [this]; rfl
theorem or_low {b : Nat} (h : b < 9223372036854775808) : bits .or .u64 (b : Int) 9223372036854775808 = ((b + 9223372036854775808 : Nat) : Int) := by go_bits2
theorem xor_all {b : Nat} (h : b < 18446744073709551616) : 18446744073709551615 ^^^ b = 18446744073709551615 - b := by
  apply Nat.eq_of_testBit_eq; intro i
  rw [Nat.testBit_xor, show (18446744073709551615 : Nat) = 2 ^ 64 - 1 from rfl, Nat.testBit_two_pow_sub_one, show 2 ^ 64 - 1 - b = 2 ^ 64 - (b + 1) by omega, Nat.testBit_two_pow_sub_succ h]
  by_cases hi : i < 64
  · simp [hi]
  · simp only [hi, decide_false, Bool.false_and, Bool.false_xor]
    have hp : 2 ^ 64 ≤ 2 ^ i := Nat.pow_le_pow_right (by omega) (by omega)
    exact Nat.testBit_lt_two_pow (by omega)
theorem not_u64 {b : Nat} (h : b < 18446744073709551616) : bits .xor .u64 IntKind.u64.max (b : Int) = ((18446744073709551615 - b : Nat) : Int) := by
  rw [show IntKind.u64.max = ((18446744073709551615 : Nat) : Int) by decide]
  rw [u64_xor_nat _ _ (by omega) (by omega)]
  rw [xor_all h]

set_option maxHeartbeats 400000 in
theorem key_any (b : Nat) (w : World) (hb : b < 18446744073709551616) :
    Calls Tryz.prog 100 #[.float .f64 b] w fun e w' => e = .returned (.int .u64 (Num.key b : Nat)) ∧ w = w' := by
  have cb := call_bits
  unfold Num.key
  by_cases h : b < 9223372036854775808
  · have h1 := and_low h
    have h2 := Lib.hid (or_low h)
    rw [if_pos h]
    clear h
    go_enter Tryz.func100, Tryz.ntmps100
    go_wp2
    go_ret
    exact ⟨by rw [← h2.out]; rfl, rfl⟩
  · have h1 := and_high h hb
    have h2 := Lib.hid (not_u64 hb)
    rw [if_neg h]
    clear h
    go_enter Tryz.func100, Tryz.ntmps100
    go_wp2
    go_ret
    exact ⟨by rw [← h2.out]; rfl, rfl⟩


theorem andNot_high {b : Nat} (h : ¬ b < 9223372036854775808) (h2 : b < 18446744073709551616) : bits .andNot .u64 (b : Int) 9223372036854775808 = ((b - 9223372036854775808 : Nat) : Int) := by go_bits2
set_option maxHeartbeats 400000 in
theorem of_any (b : Nat) (w : World) (hb : b < 18446744073709551616) :
    Calls Tryz.prog 104 #[.int .u64 b] w fun e w' => e = .returned (.float .f64 (Num.unkey b)) ∧ w = w' := by
  have cb := call_frombits
  unfold Num.unkey
  by_cases h : b < 9223372036854775808
  · have h1 := and_low h
    have h2 := Lib.hid (not_u64 hb)
    rw [if_pos h]
    clear h
    go_enter Tryz.func104, Tryz.ntmps104
    go_wp2
    go_ret
    exact ⟨by rw [← Int.toNat_natCast (18446744073709551615 - b), ← h2.out]; rfl, rfl⟩
  · have h1 := and_high h hb
    have h2 := Lib.hid (andNot_high h hb)
    rw [if_neg h]
    clear h
    go_enter Tryz.func104, Tryz.ntmps104
    go_wp2
    go_ret
    exact ⟨by rw [← Int.toNat_natCast (b - 9223372036854775808), ← h2.out]; rfl, rfl⟩

theorem ret_float {a b : Nat} (h : a = b) : Ending.returned (.float .f64 a) = .returned (.float .f64 b) := by rw [h]
theorem ret_bool {a b : Bool} (h : a = b) : Ending.returned (.bool a) = .returned (.bool b) := by rw [h]
theorem cast_lt (a b : Nat) : decide ((a : Int) < (b : Int)) = decide (a < b) := decide_eq_decide.2 (by omega)
theorem cast_eq (a b : Nat) : ((a : Int) == (b : Int)) = decide (a = b) := by rw [Bool.eq_iff_iff]; simp; omega

set_option maxHeartbeats 400000 in
theorem same_any (a b : Nat) (w : World) :
    Calls Tryz.prog 98 #[.float .f64 a, .float .f64 b] w fun e w' => e = .returned (.bool (Num.sameB a b)) ∧ w = w' := by
  have cb := call_bits
  go_enter Tryz.func98, Tryz.ntmps98
  go_wp2
  go_ret
  exact ⟨ret_bool (cast_eq _ _), rfl⟩

theorem andNot_mod {b : Nat} (h2 : b < 18446744073709551616) : bits .andNot .u64 (b : Int) 9223372036854775808 = ((b % 9223372036854775808 : Nat) : Int) := by
  by_cases h : b < 9223372036854775808
  · have : bits .andNot .u64 (b : Int) 9223372036854775808 = (b : Int) := by go_bits2
    rw [this, Nat.mod_eq_of_lt h]
  · rw [andNot_high h h2, show b - 9223372036854775808 = b % 9223372036854775808 by omega]

theorem bool_kind {P : Prop} [Decidable P] (h : P) : decide P = true := by simpa using h
end Tot
end Go.Proofs.YtgnfachjobohoaaGreat
namespace Go.Proofs.YtgnfachjobohoaaGreat
open Go.RowKit
namespace Tot
end Tot
namespace Num

/-- One more number added: 'none' stands for some NaN. -/
def addO (acc : Option Nat) (x : Nat) : Option Nat := acc.bind fun s => Ieee.double.add s x
def foldO (l : List Nat) : Option Nat := l.foldl addO (some 0)
def plainN (acc : Option Nat) : Nat := acc.getD 9221120237041090561
def sumN (l : List Nat) : Nat := plainN (foldO l)

/-- What a word is, of which 'acc' is told. -/
def Rel (acc : Option Nat) (s : Nat) : Prop :=
  s < 18446744073709551616 ∧ match acc with
  | none => 9218868437227405312 < s % 9223372036854775808
  | some r => s = r ∧ ¬ 9218868437227405312 < r % 9223372036854775808

theorem add_fine {x y r : Nat} (h : Ieee.double.add x y = some r) : r < 18446744073709551616 ∧ ¬ 9218868437227405312 < r % 9223372036854775808 := by
  have hw : ∀ s k, k ≤ 9218868437227405312 → Ieee.double.word s k < 18446744073709551616 ∧ ¬ 9218868437227405312 < Ieee.double.word s k % 9223372036854775808 := by
    intro s k hk
    unfold Ieee.Format.word
    rw [double_width]
    split <;> omega
  have hwrite : ∀ s m p, Ieee.double.write (.number s m p) < 18446744073709551616 ∧ ¬ 9218868437227405312 < Ieee.double.write (.number s m p) % 9223372036854775808 := by
    intro s m p
    unfold Ieee.Format.write Ieee.Format.nearest
    dsimp only
    split
    · exact hw _ _ (by omega)
    · exact hw _ _ (by rw [double_inf]; exact Nat.min_le_right _ _)
  have hwinf : ∀ s, Ieee.double.write (.infinity s) < 18446744073709551616 ∧ ¬ 9218868437227405312 < Ieee.double.write (.infinity s) % 9223372036854775808 := by
    intro s
    unfold Ieee.Format.write
    dsimp only
    exact hw _ _ (by rw [double_inf]; omega)
  unfold Ieee.Format.add at h
  generalize Ieee.double.read x = dx at h
  generalize Ieee.double.read y = dy at h
  cases dx <;> cases dy <;> simp only [Ieee.Datum.sum, Option.map_some, Option.map_none, Option.some.injEq, reduceCtorEq] at h
  · rw [← h]; exact hwrite _ _ _
  · rw [← h]; exact hwinf _
  · rw [← h]; exact hwinf _
  · split at h
    · simp only [Option.map_some, Option.some.injEq] at h; rw [← h]; exact hwinf _
    · simp at h

theorem add_nan_left {s x : Nat} (hs : s < 18446744073709551616) (h : 9218868437227405312 < s % 9223372036854775808) : Ieee.double.add s x = none := by
  obtain ⟨a, t, e⟩ := read_nan hs h
  unfold Ieee.Format.add
  rw [e]; rfl

theorem cut_nan (x y t : Nat) : Rel none ((Question.nanBits .f64 x y).cut t) := by
  unfold Rel Question.cut
  dsimp only
  have h1 := Nat.mod_lt (t / 2) (show 0 < 2 ^ 52 - 1 by omega)
  have h2 := Nat.mod_lt t (show 0 < 2 by omega)
  generalize t % 2 = p at h2 ⊢
  generalize t / 2 % (2 ^ 52 - 1) = q at h1 ⊢
  have : p = 0 ∨ p = 1 := by omega
  rcases this with rfl | rfl <;> omega

theorem Rel.start : Rel (some 0) 0 := by unfold Rel; simp

theorem Rel.kind {acc : Option Nat} {s : Nat} (h : Rel acc s) : (kindN s = 0 ↔ acc = none) := by
  unfold Rel at h
  unfold kindN
  cases acc with
  | none => dsimp only at h; rw [if_pos h.2]; simp
  | some r =>
    dsimp only at h
    obtain ⟨_, rfl, h3⟩ := h
    rw [if_neg h3]; repeat' split
    all_goals simp

theorem Rel.lt {acc : Option Nat} {s : Nat} (h : Rel acc s) : s < 18446744073709551616 := h.1

theorem Rel.plain {acc : Option Nat} {s : Nat} (h : Rel acc s) : (if kindN s = 0 then 9221120237041090561 else s) = plainN acc := by
  have hk := h.kind
  unfold plainN
  cases acc with
  | none => rw [if_pos (hk.2 rfl)]; rfl
  | some r => rw [if_neg (by rw [hk]; simp)]; unfold Rel at h; exact h.2.1

end Num
namespace Tot

section
variable {P : Program} (w : World)
/-- A sum that is some number or an infinity. -/
theorem run_add_some (t : TypeId) {x y r : Nat} (h : Ieee.double.add x y = some r) : (binOp .add t (.float .f64 x) (.float .f64 y)).run P w = .ok (.float .f64 r) w :=
  run_float_arith w .add t .f64 x y r h
/-- A sum that is a NaN: its bits are the tape's. -/
theorem run_add_none (t : TypeId) {x y : Nat} (h : Ieee.double.add x y = none) : (binOp .add t (.float .f64 x) (.float .f64 y)).run P w = .ok (.float .f64 ((Question.nanBits .f64 x y).cut (w.tape w.drawn (.nanBits .f64 x y)))) w.drew := by
  have h' : FloatKind.f64.format.add x y = none := h
  simp [binOp, Op.floatArith, h', Question.forced]
end

theorem run_store_float (P : Program) (w : World) (a : Addr) (m : Mode) (k : FloatKind) (n : Nat) : (store a (.float k n) m).run P w = stored P w a (.float k n) m := run_store P w a _ m rfl
attribute [local go_sem] run_store_float

/-- What a step of the sum does: the variable holds the next sum, all below it is as it was. -/
def Stepped (acc : Option Nat) (B : Nat) (w : World) (e : Ending) (w' : World) : Prop :=
  e = .returned (.tuple #[]) ∧ ∃ s, Num.Rel acc s ∧ w'.heap[B]? = some (.cells #[.float .f64 s] 44 (0, 0)) ∧ Below B w w' ∧ w'.heap.size = w.heap.size

theorem stepped_mk {acc : Option Nat} {B : Nat} {w w1 : World} {s u : Nat} (hr : Num.Rel acc s) (hb : w1.heap[B]? = some (.cells #[.float .f64 u] 44 (0, 0))) (h1 : Below B w w1) (h2 : w1.heap.size = w.heap.size) :
    Stepped acc B w (.returned (.tuple #[])) (w1.setCell ⟨B, 0, none⟩ (.float .f64 s)) :=
  ⟨rfl, s, hr, one_setCell hb, h1.setCell (Nat.le_refl _) _, by simpa [World.setCell] using h2⟩

theorem take_fold (l : List Nat) (acc : Option Nat) (k : Nat) (h : k < l.length) : (l.take (k + 1)).foldl Num.addO acc = Num.addO ((l.take k).foldl Num.addO acc) l[k] := by
  rw [List.take_succ_eq_append_getElem h, List.foldl_append]
  rfl

/-- The variable of the sum in the middle of the walk through the list. -/
def Mid (l : List Nat) (acc : Option Nat) (k B : Nat) (w wr : World) : Prop :=
  ∃ s, Num.Rel ((l.take k).foldl Num.addO acc) s ∧ wr.heap[B]? = some (.cells #[.float .f64 s] 44 (0, 0)) ∧ Below B w wr ∧ wr.heap.size = w.heap.size

/-- A slice of floats in memory. -/
def Floats (w : World) (v : Value) (l : List Nat) : Prop :=
  ∃ a c, v = .slice a l.length c ∧ (l = [] ∨ ∃ b off, a = some ⟨b, off, none⟩ ∧ b < w.heap.size ∧ ∀ i, i < l.length → w.cell? ⟨b, off + i, none⟩ = some (.float .f64 (l.getD i 0)))

end Tot
end Go.Proofs.YtgnfachjobohoaaGreat
namespace Go.Proofs.YtgnfachjobohoaaGreat
open Go.RowKit
namespace Tot
end Tot
namespace Num
theorem join_lt {a b : Nat} (ha : a < 18446744073709551616) (hb : b < 18446744073709551616) : joinN a b < 18446744073709551616 := by unfold joinN; split <;> assumption
theorem join_key (a b : Nat) : key (joinN a b) = max (key a) (key b) := by unfold joinN; split <;> omega
theorem join_left (a b : Nat) : lessB (joinN a b) a = false := by unfold lessB; rw [join_key]; simp; omega
theorem join_right (a b : Nat) : lessB (joinN a b) b = false := by unfold lessB; rw [join_key]; simp; omega
theorem same_of_key {a b : Nat} (ha : a < 18446744073709551616) (hb : b < 18446744073709551616) (h : key a = key b) : sameB a b = true := by
  unfold sameB; rw [key_inj ha hb h]; simp
theorem join_one (a b : Nat) : (sameB (joinN a b) a = true ∧ True) ∨ (sameB (joinN a b) a = false ∧ sameB (joinN a b) b = true) := by
  by_cases h : joinN a b = a
  · exact Or.inl ⟨by unfold sameB; simpa using h, trivial⟩
  · refine Or.inr ⟨by unfold sameB; simpa using h, ?_⟩
    have : joinN a b = b := by unfold joinN at *; split at h <;> simp_all
    unfold sameB; simpa using this
end Num
namespace Tot
end Tot
end Go.Proofs.YtgnfachjobohoaaGreat
namespace Go.Proofs.YtgnfachjobohoaaGreat
open Go.RowKit
namespace Tot

theorem ret_u64 {a b : Int} (h : a = b) : Ending.returned (.int .u64 a) = .returned (.int .u64 b) := by rw [h]
theorem wrap_nat {n : Int} {m : Nat} (h : n = (m : Nat)) (hm : m < 18446744073709551616) : IntKind.u64.wrap n = (m : Nat) := by rw [IntKind.wrap_u64]; omega

set_option maxHeartbeats 400000 in
theorem rkey_any (b : Nat) (w : World) (hb : b < 18446744073709551616) :
    Calls Tryz.prog 99 #[.float .f64 b] w fun e w' => e = .returned (.int .u64 (Num.key b : Nat)) ∧ w = w' := by
  have cb := call_bits
  have H := Lib.hid hb
  have h3 : (b : Int) < 18446744073709551616 := by omega
  unfold Num.key
  by_cases h : b < 9223372036854775808
  · rw [if_pos h]
    have h2 : (b : Int) < 9223372036854775808 := by omega
    clear hb h
    go_enter Tryz.func99, Tryz.ntmps99
    go_wp2
    go_ret
    exact ⟨ret_u64 (by omega), rfl⟩
  · rw [if_neg h]
    have h2 : ¬ (b : Int) < 9223372036854775808 := by omega
    clear hb h
    go_enter Tryz.func99, Tryz.ntmps99
    go_wp2
    go_ret
    exact ⟨ret_u64 (by have := H.out; omega), rfl⟩

set_option maxHeartbeats 400000 in
theorem rof_any (b : Nat) (w : World) (hb : b < 18446744073709551616) :
    Calls Tryz.prog 97 #[.int .u64 b] w fun e w' => e = .returned (.float .f64 (Num.unkey b)) ∧ w = w' := by
  have cf := call_frombits
  have H := Lib.hid hb
  have h3 : (b : Int) < 18446744073709551616 := by omega
  unfold Num.unkey
  by_cases h : b < 9223372036854775808
  · rw [if_pos h]
    have h2 : ¬ (9223372036854775808 : Int) ≤ b := by omega
    clear hb h
    go_enter Tryz.func97, Tryz.ntmps97
    go_wp2
    go_ret
    exact ⟨ret_float (by omega), rfl⟩
  · rw [if_neg h]
    have h2 : (9223372036854775808 : Int) ≤ b := by omega
    clear hb h
    go_enter Tryz.func97, Tryz.ntmps97
    go_wp2
    go_ret
    exact ⟨ret_float (by omega), rfl⟩

theorem kind_split (b : Nat) :
    let e : Int := (b : Int) % 9223372036854775808 / 4503599627370496
    let m : Int := (b : Int) % 4503599627370496
    ((e == 2047) = true ∧ decide (0 < m) = true ∧ Num.kindN b = 0) ∨ ((e == 2047) = true ∧ decide (0 < m) = false ∧ Num.kindN b = 1) ∨
      ((e == 2047) = false ∧ (e == 0) = true ∧ (m == 0) = true ∧ Num.kindN b = 2) ∨ ((e == 2047) = false ∧ (e == 0) = true ∧ (m == 0) = false ∧ Num.kindN b = 3) ∨ ((e == 2047) = false ∧ (e == 0) = false ∧ Num.kindN b = 3) ∨ 4294967295 < (b : Int) / 4294967296 := by
  dsimp only
  simp only [beq_iff_eq, beq_eq_false_iff_ne, decide_eq_true_eq, decide_eq_false_iff_not]
  unfold Num.kindN
  by_cases h1 : 9218868437227405312 < b % 9223372036854775808
  · rw [if_pos h1]; omega
  · rw [if_neg h1]
    by_cases h2 : b % 9223372036854775808 = 9218868437227405312
    · rw [if_pos h2]; omega
    · rw [if_neg h2]
      by_cases h4 : b % 9223372036854775808 = 0
      · rw [if_pos h4]; omega
      · rw [if_neg h4]; omega

end Tot
end Go.Proofs.YtgnfachjobohoaaGreat
namespace Go.Proofs.YtgnfachjobohoaaGreat
open Go.RowKit
namespace Tot
attribute [local go_sem] run_store_float

theorem Floats.below {w w' : World} {v : Value} {l : List Nat} (h : Floats w v l) (hb : Below w.heap.size w w') : Floats w' v l := by
  obtain ⟨a, c, rfl, h⟩ := h
  refine ⟨a, c, rfl, h.imp id ?_⟩
  rintro ⟨b, off, rfl, hlt, hc⟩
  exact ⟨b, off, rfl, Nat.lt_of_lt_of_le hlt hb.size, fun i hi => by rw [hb.cell (p := ⟨b, off + i, none⟩) hlt]; exact hc i hi⟩

theorem Floats.own {w : World} {base : Nat} {v : Value} {l : List Nat} (h : w.ownsRow base 44 1 v l.length (l.map (Value.float .f64))) : Floats w v l := by
  have hlt := h.lt
  have hcs := @World.ownsRow.cells w base 44 1 v l.length _ h
  rcases h.2 with ⟨rfl, hn⟩ | ⟨g, cap, cur, rfl, hg, hh, _⟩
  · refine ⟨none, 0, by rw [hn], Or.inl (List.eq_nil_of_length_eq_zero hn)⟩
  · refine ⟨_, cap, rfl, Or.inr ⟨g, 0, rfl, (hlt g rfl).2, fun i hi => ?_⟩⟩
    have := hcs (g := g) rfl i (.float .f64 (l.getD i 0)) (by rw [List.getElem?_map, List.getElem?_eq_getElem hi]; simp [List.getD_eq_getElem?_getD, hi])
    have e : (⟨g, 0, none⟩ : Addr).add i = ⟨g, 0 + i, none⟩ := by unfold Addr.add; split <;> simp_all
    rw [e] at this; exact this

/-- Where the document's sum stands behind k numbers. -/
def RMid (l : List Nat) (k : Nat) (w wr : World) (s : Value) : Prop :=
  ∃ x, s = .float .f64 x ∧ Num.Rel ((l.take k).foldl Num.addO (some 0)) x ∧ Below w.heap.size w wr

theorem rel_some {acc : Option Nat} {s x r : Nat} (hr : Num.Rel acc s) (hadd : Ieee.double.add s x = some r) : Num.Rel (Num.addO acc x) r := by
  cases acc with
  | none => have := Num.add_nan_left (x := x) hr.lt hr.2; rw [hadd] at this; cases this
  | some q =>
    obtain ⟨h1, rfl, h2⟩ := hr
    show Num.Rel (Ieee.double.add s x) r
    rw [hadd]
    exact ⟨(Num.add_fine hadd).1, rfl, (Num.add_fine hadd).2⟩
theorem rel_none {acc : Option Nat} {s x : Nat} (hr : Num.Rel acc s) (hadd : Ieee.double.add s x = none) (t : Nat) : Num.Rel (Num.addO acc x) ((Question.nanBits .f64 s x).cut t) := by
  have e : Num.addO acc x = none := by
    cases acc with
    | none => rfl
    | some q => obtain ⟨h1, rfl, h2⟩ := hr; exact hadd
  rw [e]; exact Num.cut_nan _ _ _

end Tot
end Go.Proofs.YtgnfachjobohoaaGreat

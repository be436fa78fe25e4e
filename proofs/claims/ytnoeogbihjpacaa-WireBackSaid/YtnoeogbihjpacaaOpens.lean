/-
Vectors, dots and slices of vectors that came in.
-/
import Derived.Test.YtnoeogbihjpacaaCalls
import Derived.Test.YtnoeogbihjpacaaLaw
import Derived.Deep.Slices
import Derived.Lib.SmallJoins
namespace Go.Proofs.Ytnoeogbihjpacaa
open Go.ChangeShapes Go.WideShapes Go.ChangeAt Go.RowKit

theorem laid_out : laidOutB Try.prog = true := by kernel_rfl
theorem own_knob : ownKnob Try.prog.godebug = none := by kernel_rfl
theorem cells_u32 : Try.prog.cellsOf 28 = 1 := by kernel_rfl
theorem cells_vec : Try.prog.cellsOf 30 = 12 := by kernel_rfl

theorem bound_u64 {a : Int} (h : (Lit.int .u64 a).wf = true) : ∃ n : Nat, a = (n : Nat) ∧ n < 18446744073709551616 := by
  have := bounds_u64 h
  exact ⟨a.toNat, by omega, by omega⟩
section
variable {H : Type} {enc : TypeId × Value → H} {w : World}

def cellNat : Option Value → Nat
  | some (.int .u32 n) => n.toNat % 4294967296
  | _ => 0
theorem cellNat_lt (o : Option Value) : cellNat o < 4294967296 := by
  unfold cellNat; split <;> omega

theorem vec_of {cs : List Value} (hl : cs.length = 12) (h : ∀ i, i < 12 → ∃ n : Int, cs[i]? = some (.int .u32 n) ∧ 0 ≤ n ∧ n < 4294967296) : ∃ f : Nat → Nat, cs = vl f ∧ ∀ i, f i < 4294967296 := by
  refine ⟨fun i => cellNat cs[i]?, ?_, fun i => cellNat_lt _⟩
  apply List.ext_getElem?
  intro i
  by_cases hi : i < 12
  · obtain ⟨n, e, h0, h1⟩ := h i hi
    rw [vl_get hi, e]
    have : ((cellNat (some (.int .u32 n)) : Nat) : Int) = n := by
      show ((n.toNat % 4294967296 : Nat) : Int) = n
      omega
    rw [this]
  · rw [List.getElem?_eq_none (by omega), List.getElem?_eq_none (by rw [vl_len]; omega)]

set_option maxRecDepth 100000 in
theorem vec_trod {base fuel : Nat} {sp : Nat → Bool} {hd : Bool} {cs : List Value} {x : DataW H × List MemPlace} (h : DataW.trod enc Try.prog w base sp hd fuel 30 cs = some x) : ∃ f : Nat → Nat, cs = vl f ∧ ∀ i, f i < 4294967296 := by
  obtain ⟨xs, m, _, _, hlen, hx, hg⟩ := DataW.trod_array Try.underlying30 h
  rw [cells_vec] at hlen
  refine vec_of hlen fun i hi => ?_
  have h1 := hg i hi
  rw [cells_u32, Nat.mul_one, List.drop_eq_getElem_cons (by omega), List.take_succ_cons, List.take_zero] at h1
  have h2 : xs[i]? = some (xs[i]'(by omega)) := List.getElem?_eq_getElem (by omega)
  rw [h2] at h1
  obtain ⟨n, e, _, hw⟩ := DataW.trod_int Try.underlying28 h1
  have hb := bounds_u32 hw
  refine ⟨n, ?_, by omega, by omega⟩
  rw [List.getElem?_eq_getElem (by omega)]
  rw [(List.cons.inj e).1]

theorem okWide_array {P : Program} {w : World} {r : Reach} {base : Nat} {t e : TypeId} {n : Nat} {v : Value} (ht : P.underlying t = some (.array n e)) (h : Value.okWide P w r base t v) : ∃ cs, v = .agg cs ∧ cs.size = P.cellsOf t := by
  simp only [Value.okWide, ht] at h
  obtain ⟨cs, h1, h2, _⟩ := h
  exact ⟨cs, h1, h2⟩

set_option maxRecDepth 100000 in
theorem open_vec {r : Reach} {b0 base : Nat} {sp : Nat → Bool} {hd : Bool} {v : Value} {d : DataW H} {p : List MemPlace} (hv : Value.okWide Try.prog w r b0 30 v) (h : DataW.Trod enc Try.prog w base sp hd 30 v d p) :
    ∃ f : Nat → Nat, v = .agg (vl f).toArray ∧ ∀ i, f i < 4294967296 := by
  obtain ⟨cs, rfl, _⟩ := okWide_array Try.underlying30 hv
  obtain ⟨fuel, hf⟩ := h
  obtain ⟨f, e, hb⟩ := vec_trod hf
  refine ⟨f, ?_, hb⟩
  rw [← e]; rfl

set_option maxRecDepth 100000 in
theorem open_dot {b0 base : Nat} {r : Reach} {sp : Nat → Bool} {hd : Bool} {v : Value} {d : DataW H} {p : List MemPlace} (hv : Value.okWide Try.prog w r b0 69 v) (h : DataW.Trod enc Try.prog w base sp hd 69 v d p) :
    ∃ (n : Int) (m : Nat), v = .agg #[.int .i64 n, .int .u32 m] := by
  obtain ⟨v0, v1, y0, y1, k, rfl, _, _, h0, h1⟩ := Go.Joins.open_agg2 Try.underlying69 (by kernel_rfl) (by kernel_rfl) hv h
  obtain ⟨n, e0, _, _⟩ := DataW.trod_int Try.underlying3 h0
  obtain ⟨m, e1, _, hw⟩ := DataW.trod_int Try.underlying28 h1
  have hb := bounds_u32 hw
  simp only [List.cons.injEq, and_true] at e0 e1
  subst e0 e1
  exact ⟨n, m.toNat, by rw [show ((m.toNat : Nat) : Int) = m by omega]⟩
end
end Go.Proofs.Ytnoeogbihjpacaa

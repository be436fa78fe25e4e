/-
label.isNext, Past, Before.
label.Before.
label.Right.
-/
import Derived.Test.YtgnfachjobohoaaEqs
namespace Go.Proofs.Ytgnfachjobohoaa
open Go.RowKit

theorem range_next {W W' : World} {b o : Nat} {cs : List Value} (hb : Below W.heap.size W W') (h : W.rangeAt b o cs) : W'.rangeAt b o cs := fun j v hv => by
  have h1 := h j v hv
  exact (hb.cell (World.block_lt_of_cell? _ _ h1)).trans h1
theorem next_yes {l : Lab} (h : nextB l = true) : nextD l.f l.nd = (l.nd, l.n, 0) := by
  unfold nextB at h
  simp only [Bool.and_eq_true, decide_eq_true_eq] at h
  unfold nextD
  rw [if_pos h.1.1, if_pos h.1.2, h.2]
theorem next_no {l : Lab} (h : nextB l = false) : (nextD l.f l.nd).2.2 = 5 ∨ (nextD l.f l.nd).2.2 = 11 ∨ ∃ k : Nat, nextD l.f l.nd = (l.nd, k, 0) ∧ k ≠ l.n := by
  unfold nextD
  by_cases h1 : nodeB l.nd = true
  · rw [if_pos h1]
    by_cases h2 : getN l.f l.nd < 1048576
    · rw [if_pos h2]
      refine Or.inr (Or.inr ⟨_, rfl, fun e => ?_⟩)
      unfold nextB at h
      rw [h1, decide_eq_true h2, decide_eq_true e.symm] at h
      cases h
    · rw [if_neg h2]; exact Or.inl rfl
  · rw [if_neg h1]; exact Or.inr (Or.inl rfl)

/-- A label's past. -/
def pastF (l : Lab) : Nat → Nat := withF l.f l.nd l.n
end Go.Proofs.Ytgnfachjobohoaa
namespace Go.Proofs.Ytgnfachjobohoaa
open Go.RowKit

/-- Does b's event depend on a's? -/
def befB (a b : Lab) : Bool := decide (a.ca = b.ca) && hasB b.f a.nd a.n

end Go.Proofs.Ytgnfachjobohoaa
namespace Go.Proofs.Ytgnfachjobohoaa
open Go.RowKit

def timeB (t : Nat) : Bool := decide (1 ≤ t) && decide (t ≤ 1099511627776)
def placeB (ca se : Int) : Bool := decide (1 ≤ ca) && decide (ca ≤ 12) && decide (0 ≤ se) && decide (se ≤ 12)
/-- May a label be? -/
def rightL (l : Lab) : Bool := timeB l.t && placeB l.ca l.se && nextB l && decide (maxK l.f 11 ≤ 1048576)
theorem time_cases (t : Nat) : (timeB t = true ∧ decide (1 ≤ (t : Int)) = true ∧ decide ((t : Int) ≤ 1099511627776) = true) ∨ (timeB t = false ∧ decide (1 ≤ (t : Int)) = true ∧ decide ((t : Int) ≤ 1099511627776) = false) ∨ (timeB t = false ∧ decide (1 ≤ (t : Int)) = false) := by
  unfold timeB
  by_cases h1 : 1 ≤ t
  · by_cases h2 : t ≤ 1099511627776
    · exact Or.inl ⟨by simp [h1, h2], by simp; omega, by simp; omega⟩
    · exact Or.inr (Or.inl ⟨by simp [h2], by simp; omega, by simp; omega⟩)
  · exact Or.inr (Or.inr ⟨by simp [h1], by simp; omega⟩)
theorem place_cases (ca se : Int) : (placeB ca se = true ∧ decide (1 ≤ ca) = true ∧ decide (ca ≤ 12) = true ∧ decide (0 ≤ se) = true ∧ decide (se ≤ 12) = true) ∨ (placeB ca se = false ∧ decide (1 ≤ ca) = false)
    ∨ (placeB ca se = false ∧ decide (1 ≤ ca) = true ∧ decide (ca ≤ 12) = false) ∨ (placeB ca se = false ∧ decide (1 ≤ ca) = true ∧ decide (ca ≤ 12) = true ∧ decide (0 ≤ se) = false)
    ∨ (placeB ca se = false ∧ decide (1 ≤ ca) = true ∧ decide (ca ≤ 12) = true ∧ decide (0 ≤ se) = true ∧ decide (se ≤ 12) = false) := by
  unfold placeB
  cases h1 : decide (1 ≤ ca)
  · simp
  · cases h2 : decide (ca ≤ 12)
    · simp
    · cases h3 : decide (0 ≤ se)
      · simp
      · cases h4 : decide (se ≤ 12) <;> simp

theorem wpList_load_midg {P : Program} {ops : Array Oper} {rest : List Oper} {op : Oper} {a : Act} {w : World} {Q : Exit → Act → World → Prop} (hw : Region.wanted op (yielded ops a.tmps) = true) (ty : TypeId) (x : Operand) (ho : op.op = .load ty x)
    (b o : Nat) (hx : a.eval x = .pointer (some ⟨b, o, none⟩)) (cs : List Value) (d : TypeDesc) (hc : w.rangeAt b o cs)
    (hu : P.underlying ty = some d) (hd : d.isRow = true) (hi : (P.info? ty).map (·.size) = some cs.length)
    (h : wpList P ops Q rest (a.put op.dst (.agg cs.toArray)) w) : wpList P ops Q (op :: rest) a w :=
  wpList_step fun _ hK => by
    rw [if_pos hw]
    exact wp_load_mid ty x ho b o hx cs d hc hu hd hi (hK _ _ h)

section
variable (l : Lab) (W : World)
end
end Go.Proofs.Ytgnfachjobohoaa

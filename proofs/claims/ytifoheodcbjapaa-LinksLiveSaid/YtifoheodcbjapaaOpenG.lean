/-
Rows of structs that came in, of whatever struct. It speaks of any program.
-/
import Derived.Test.YtifoheodcbjapaaLaw
import Derived.Test.YtifoheodcbjapaaVec
import Derived.Deep.Slices
import Derived.Deep.MidRow
namespace Go.Proofs.Ytifoheodcbjapaa
open Go.ChangeShapes Go.WideShapes Go.ChangeAt Go.WideElems Go.RowKit
namespace Opn
theorem add_plain (b o j : Nat) : (⟨b, o, none⟩ : Addr).add j = ⟨b, o + j, none⟩ := by unfold Addr.add; split <;> simp_all
end Opn
/-- Structs in a row. -/
def RowsOf {α : Type} (cells : α → List Value) (K : Nat) (w : World) (A : Option Addr) (l : List α) : Prop :=
  l = [] ∨ ∃ b o, A = some ⟨b, o, none⟩ ∧ b < w.heap.size ∧ ∀ i, (hi : i < l.length) → w.rangeAt b (o + i * K) (cells l[i])
theorem RowsOf.next {α : Type} {cells : α → List Value} {K : Nat} {w w' : World} {A : Option Addr} {l : List α} (h : RowsOf cells K w A l) (hb : Below w.heap.size w w') : RowsOf cells K w' A l := by
  refine h.imp id ?_
  rintro ⟨b, o, e, h1, h2⟩
  exact ⟨b, o, e, Nat.lt_of_lt_of_le h1 hb.size, fun i hi j v hv => (hb.cell (p := ⟨b, o + i * K + j, none⟩) h1).trans (h2 i hi j v hv)⟩
section
variable {H : Type} {enc : TypeId × Value → H} {w : World} {P : Program}
set_option maxRecDepth 100000 in
theorem open_rows_cells {α : Type} {t e : TypeId} (ht : P.underlying t = some (.slice e)) (K : Nat) (hK : P.cellsOf e = K) (hK0 : 0 < K) (cells : α → List Value) (ok : α → Prop) (dflt : α) (hlen : ∀ x, (cells x).length = K)
    {base fuel : Nat} {hd : Bool} {cs : List Value} {x : DataW H × List MemPlace} (h : DataW.trod enc P w base (fun _ => true) hd fuel t cs = some x) (hlt : ∀ y ∈ x.2, y.block < w.heap.size)
    (helem : ∀ (fuel : Nat) (hd : Bool) (cs : List Value) (x : DataW H × List MemPlace), DataW.trod enc P w base (fun _ => true) hd fuel e cs = some x → (∀ y ∈ x.2, y.block < w.heap.size) → ∃ p, cs = cells p ∧ ok p) :
    ∃ (A : Option Addr) (c : Nat) (l : List α), cs = [.slice A l.length c] ∧ l.length ≤ c ∧ c ≤ 9223372036854775807 ∧ RowsOf cells K w A l ∧ ∀ p ∈ l, ok p := by
  obtain ⟨x1, x2⟩ := x
  rcases Go.Deep.open_slice ht h with ⟨hcs, _⟩ | ⟨a, len, cap, m, n, D, Pl, hcs, _, hl, hm, hmm, hx, hi⟩
  · exact ⟨none, 0, [], hcs, by simp, by omega, Or.inl rfl, by simp⟩
  · rw [if_pos rfl] at hmm
    subst hmm
    unfold maxLen at hm
    rw [hK] at hi hx
    simp only [Prod.mk.injEq] at hx
    obtain ⟨V, hV⟩ : ∃ V : Nat → α, ∀ i, i < m → ∃ cs', w.cells? base (a.add (i * K)) K = some cs' ∧ cs' = cells (V i) ∧ ok (V i) := by
      have : ∀ i, ∃ p : α, i < m → ∃ cs', w.cells? base (a.add (i * K)) K = some cs' ∧ cs' = cells p ∧ ok p := by
        intro i
        by_cases h : i < m
        · obtain ⟨cs', h1, h2⟩ := hi i h
          obtain ⟨p, e, hp⟩ := helem _ _ _ _ h2 (fun y hy => hlt y (by rw [hx.2]; exact List.mem_append_right _ (List.mem_flatMap.2 ⟨i, List.mem_range.2 h, hy⟩)))
          exact ⟨p, fun _ => ⟨cs', h1, e, hp⟩⟩
        · exact ⟨dflt, fun h' => absurd h' h⟩
      exact ⟨fun i => (this i).choose, fun i => (this i).choose_spec⟩
    refine ⟨some a, m, (List.range len).map V, by rw [hcs]; simp, by simp; omega, by omega, ?_, ?_⟩
    · by_cases h0 : len = 0
      · left; simp [h0]
      · right
        obtain ⟨cs', h1, e, _⟩ := hV 0 (by omega)
        obtain ⟨_, hlen', hc⟩ := World.cells?_some h1
        have h00 := hc 0 (by omega)
        rw [e, Nat.zero_mul, List.getElem?_eq_getElem (by rw [hlen]; exact hK0)] at h00
        obtain ⟨b, off, spot⟩ := a
        have hspot : spot = none := by simpa [Addr.add] using World.cell?_spot h00
        subst hspot
        have hb : b < w.heap.size := by
          have := World.block_lt_of_cell? w _ h00
          simpa [Addr.add] using this
        refine ⟨b, off, rfl, hb, fun i hi' => ?_⟩
        have hi2 : i < len := by simpa using hi'
        obtain ⟨cs', h1, e, _⟩ := hV i (by omega)
        obtain ⟨_, hlen', hc⟩ := World.cells?_some h1
        intro j u hu
        rw [List.getElem_map, List.getElem_range] at hu
        have hj : j < K := by have := (List.getElem?_eq_some_iff.1 hu).1; rwa [hlen] at this
        have := hc j hj
        rw [e, Opn.add_plain, Opn.add_plain] at this
        rw [this]; exact hu
    · intro p hp
      obtain ⟨i, hi', rfl⟩ := List.mem_map.1 hp
      obtain ⟨_, _, _, hok⟩ := hV i (by have := List.mem_range.1 hi'; omega)
      exact hok
theorem open_rows {α : Type} {t e : TypeId} (ht : P.underlying t = some (.slice e)) (K : Nat) (hK : P.cellsOf e = K) (hK0 : 0 < K) (cells : α → List Value) (ok : α → Prop) (dflt : α) (hlen : ∀ x, (cells x).length = K)
    {b0 : Nat} {r : Reach} {v : Value} {d : DataW H} {ps : List MemPlace} (hv : Value.okWide P w r b0 t v) (h : DataW.Trod enc P w 0 (fun _ => true) true t v d ps) (hlt : ∀ x ∈ ps, x.block < w.heap.size)
    (helem : ∀ (fuel : Nat) (hd : Bool) (cs : List Value) (x : DataW H × List MemPlace), DataW.trod enc P w 0 (fun _ => true) hd fuel e cs = some x → (∀ y ∈ x.2, y.block < w.heap.size) → ∃ p, cs = cells p ∧ ok p) :
    ∃ (A : Option Addr) (c : Nat) (l : List α), v = .slice A l.length c ∧ l.length ≤ c ∧ c ≤ 9223372036854775807 ∧ RowsOf cells K w A l ∧ ∀ p ∈ l, ok p := by
  obtain ⟨a0, len0, cap0, rfl⟩ := okWide_slice ht hv
  obtain ⟨fuel, hf⟩ := h
  obtain ⟨A, c, l, e1, h1⟩ := open_rows_cells ht K hK hK0 cells ok dflt hlen hf hlt helem
  simp [Value.cells] at e1
  obtain ⟨rfl, rfl, rfl⟩ := e1
  exact ⟨_, _, l, rfl, h1⟩
end
end Go.Proofs.Ytifoheodcbjapaa

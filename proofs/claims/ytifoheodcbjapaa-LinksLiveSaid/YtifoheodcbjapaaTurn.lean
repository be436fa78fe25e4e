/-
What a call on an object with blocks of its own leaves as it was; what lies beside them; a store into the middle of a block. It speaks of any program.
-/
import Derived.Test.YtifoheodcbjapaaRows2
import Derived.Test.YtifoheodcbjapaaVec
import Derived.Deep.MidRow
namespace Go.Proofs.Ytifoheodcbjapaa
open Go.RowKit
set_option linter.unusedVariables false
/-- What a call on an object leaves as it was. -/
def Turn (B : Nat) (F : Nat → Prop) (W W' : World) : Prop := Below B W W' ∧ ∀ k, k < W.heap.size → ¬ F k → W'.heap[k]? = W.heap[k]?
/-- Its blocks behind a call. -/
def Grow (F : Nat → Prop) (W W' : World) : Nat → Prop := fun k => F k ∨ (W.heap.size ≤ k ∧ k < W'.heap.size)
theorem ownG_keep {w w' : World} {B : Nat} {e : TypeId} {size n : Nat} {v : Value} {xs : List Value} (h : w.ownsRow B e size v n xs) (hk : ∀ k, v.ownBlock = some k → w'.heap[k]? = w.heap[k]?) : w'.ownsRow B e size v n xs := by
  obtain ⟨hl, h⟩ := h
  refine ⟨hl, h.imp id ?_⟩
  rintro ⟨g, cap, cur, e, hg, hh, r⟩
  exact ⟨g, cap, cur, e, hg, (hk g (by rw [e]; rfl)).trans hh, r⟩
theorem own_ne {W : World} {B n g size : Nat} {e t : TypeId} {v : Value} {xs : List Value} {cs : Array Value} (h : W.ownsRow B e size v n xs) (hg : Blk W g t cs) (ht : t ≠ e) : some g ≠ v.ownBlock := by
  obtain ⟨_, ⟨rfl, rfl⟩ | ⟨k, cap, cur, rfl, _, hk, _⟩⟩ := h
  · simp [Value.ownBlock]
  · intro e
    simp only [Value.ownBlock, Option.some.injEq] at e
    subst e
    unfold Blk at hg
    rw [hk] at hg
    simp only [Option.some.injEq, Obj.cells.injEq] at hg
    exact ht hg.2.1.symm
def Prot (P F : Nat → Prop) (W : World) : Prop := ∀ k, P k → k < W.heap.size ∧ ¬ F k
def Kept (P : Nat → Prop) (W W' : World) : Prop := ∀ k, P k → W'.heap[k]? = W.heap[k]?
theorem Turn.kept {B : Nat} {F P : Nat → Prop} {W W' : World} (t : Turn B F W W') (h : Prot P F W) : Kept P W W' := fun k hk => t.2 k (h k hk).1 (h k hk).2
theorem Turn.prot {B : Nat} {F P : Nat → Prop} {W W' : World} (t : Turn B F W W') (h : Prot P F W) : Prot P (Grow F W W') W' := fun k hk =>
  ⟨Nat.lt_of_lt_of_le (h k hk).1 t.1.size, by
    rintro (h1 | ⟨h1, _⟩)
    · exact (h k hk).2 h1
    · exact absurd (h k hk).1 (by omega)⟩
theorem Prot.next {F P : Nat → Prop} {W W' : World} (h : Prot P F W) (hb : Below W.heap.size W W') : Prot P F W' := fun k hk => ⟨Nat.lt_of_lt_of_le (h k hk).1 hb.size, (h k hk).2⟩
theorem Prot.size {P F : Nat → Prop} {W W' : World} (h : Prot P F W) (hs : W.heap.size ≤ W'.heap.size) : Prot P F W' := fun k hk => ⟨Nat.lt_of_lt_of_le (h k hk).1 hs, (h k hk).2⟩
theorem Prot.add {F P : Nat → Prop} {W W' : World} {g : Nat} (h : Prot P F W) (hF : ∀ k, F k → k < W.heap.size) (hb : Below W.heap.size W W') (hg : W.heap.size ≤ g ∧ g < W'.heap.size) : Prot (fun k => P k ∨ k = g) F W' := fun k hk => by
  rcases hk with hk | rfl
  · exact h.next hb k hk
  · exact ⟨hg.2, fun hF' => absurd (hF _ hF') (by omega)⟩
theorem Prot.none (F : Nat → Prop) (W : World) : Prot (fun _ => False) F W := fun _ h => h.elim
theorem apart_grow {W W' : World} {F G : Nat → Prop} (h : ∀ k, F k → ¬ G k) (hG : ∀ k, G k → k < W.heap.size) : ∀ k, Grow F W W' k → ¬ G k := by
  rintro k (hk | ⟨h1, _⟩) hg
  · exact h k hk hg
  · have := hG k hg; omega
theorem apart_symm {F G : Nat → Prop} (h : ∀ k, F k → ¬ G k) : ∀ k, G k → ¬ F k := fun k hg hf => h k hf hg
namespace Wr
/-- A block that is laid and filled at once. -/
theorem alloc_setRow (w : World) (t : TypeId) (z cs : Array Value) : (w.alloc (.cells z t)).setRow w.heap.size cs = w.alloc (.cells cs t) := by
  have h : ∀ (a : Array Obj) (o : Obj) (f : Obj → Obj), (a.push o).modify a.size f = a.push (f o) := by
    intro a o f
    apply Array.ext_getElem?
    intro i
    rw [Array.getElem?_modify, Array.getElem?_push, Array.getElem?_push]
    by_cases hi : a.size = i
    · subst hi; simp
    · rw [if_neg hi, if_neg (Ne.symm hi), if_neg (Ne.symm hi)]
  unfold World.setRow World.alloc
  rw [h]
end Wr
theorem setCells_other (g : Nat) : ∀ (vs : List Value) (o : Nat) (w : World) (k : Nat), k ≠ g → (w.setCells g o vs).heap[k]? = w.heap[k]?
  | [], _, _, _, _ => rfl
  | v :: r, o, w, k, h => (setCells_other g r (o + 1) (w.setCell ⟨g, o, none⟩ v) k h).trans (Below.heap_setCell w ⟨g, o, none⟩ v k h)
theorem setCells_below {B g : Nat} {a : World} (hB : B ≤ g) : ∀ (vs : List Value) (o : Nat) (w : World), Below B a w → Below B a (w.setCells g o vs)
  | [], _, _, h => h
  | v :: r, o, w, h => setCells_below hB r (o + 1) _ (h.setCell (p := ⟨g, o, none⟩) hB v)
theorem setCells_size (g : Nat) : ∀ (vs : List Value) (o : Nat) (w : World), (w.setCells g o vs).heap.size = w.heap.size
  | [], _, _ => rfl
  | v :: r, o, w => (setCells_size g r (o + 1) _).trans (by simp [World.setCell])
/-- A store into the middle of a block. -/
theorem Blk.setMid {g : Nat} {t : TypeId} : ∀ (vs : List Value) (p o q : List Value) (w : World), Blk w g t (p ++ o ++ q).toArray → vs.length = o.length → Blk (w.setCells g p.length vs) g t (p ++ vs ++ q).toArray
  | [], p, o, q, w, h, hl => by
    have : o = [] := List.length_eq_zero_iff.1 hl.symm
    subst this
    exact h
  | v :: r, p, o, q, w, h, hl => by
    cases o with
    | nil => simp at hl
    | cons u o =>
      have h1 := h.setCell p.length v
      have e : (p ++ (u :: o) ++ q).toArray.setIfInBounds p.length v = ((p ++ [v]) ++ o ++ q).toArray := by simp
      rw [e] at h1
      have h2 := Blk.setMid r (p ++ [v]) o q _ h1 (by simpa using hl)
      have e2 : (p ++ [v]).length = p.length + 1 := by simp
      rw [e2] at h2
      have e3 : p ++ [v] ++ r ++ q = p ++ (v :: r) ++ q := by simp
      rw [e3] at h2
      exact h2
theorem Blk.thereT {w : World} {g o n : Nat} {t : TypeId} {cs : Array Value} (h : Blk w g t cs) (hn : o + n ≤ cs.size) : w.there g o n := fun j hj =>
  ⟨by rw [h.cell, Array.getElem?_eq_getElem (by omega)]; rfl, h.frozen _⟩
theorem Blk.mid {w : World} {g : Nat} {t : TypeId} {p o q : List Value} (h : Blk w g t (p ++ o ++ q).toArray) : w.rangeAt g p.length o := fun j v hv => by
  have hj := (List.getElem?_eq_some_iff.1 hv).1
  rw [h.cell, List.getElem?_toArray, List.append_assoc, List.getElem?_append_right (by omega), Nat.add_sub_cancel_left, List.getElem?_append_left hj, hv]
end Go.Proofs.Ytifoheodcbjapaa

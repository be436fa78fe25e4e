/-
A range over a function: loads and stores of structs inside a fence; what a loop's body keeps, but for some blocks. It speaks of any program.
-/
import Derived.RangeFuncNested
import Derived.RangeFuncBound
import Derived.RangeFuncCalls
import Derived.RangeFuncLeaves
import Derived.Shelf.Abstract
import Derived.Shelf.RegionOpen
import Derived.WalkKit
import Derived.OwnWalkIn
import Derived.TacticsInMore
import Derived.LoopNIn
import Derived.LoopIn
import Derived.RangeFuncBox
import Derived.Deep.MidRow
import Derived.Deep.WholeRow
import Derived.Test.YtoomlbphnadlpaaVec
namespace Go.Proofs.Ytoomlbphnadlpaa
open Go.RowKit
section
variable {F : Fence} {n : Nat} {P : Program}
theorem wpListIn_load_mid {ops : Array Oper} {rest : List Oper} {op : Oper} {a : Act} {w : World} {Q : Exit → Act → World → Prop} (hgd : op.guard = none) (ty : TypeId) (x : Operand) (ho : op.op = .load ty x)
    (b o : Nat) (hx : a.eval x = .pointer (some ⟨b, o, none⟩)) (cs : List Value) (d : TypeDesc) (hc : w.rangeAt b o cs)
    (hu : P.underlying ty = some d) (hd : d.isRow = true) (hi : (P.info? ty).map (·.size) = some cs.length)
    (h : wpListIn F n P ops Q rest (a.put op.dst (.agg cs.toArray)) w) : wpListIn F n P ops Q (op :: rest) a w := by
  refine wpListIn_plain hgd fun K hK => ?_
  unfold Oper.wpIn
  refine ⟨by simp [Oper.about, ho], ?_⟩
  rw [Oper.semAt_plain F _ _ (by rw [ho]; intro c hc'; cases hc')]
  simp only [execOp, ho, hx, Instr.loadAt, Instr.sureAddr, Sem.run_bind, Sem.run_pure, Result.andThen_ok, run_loadVar_mid w b o ty cs d hc hu hd hi]
  exact hK _ _ h
theorem wpListIn_store_blk {ops : Array Oper} {rest : List Oper} {o : Oper} {a : Act} {w : World} {Q : Exit → Act → World → Prop} (hgd : o.guard = none) (ty : TypeId) (x y : Operand) (ho : o.op = .store ty x y)
    (g : Nat) (t : TypeId) (old cs : Array Value) (hx : a.eval x = .pointer (some ⟨g, 0, none⟩)) (hy : a.eval y = .agg cs) (hg : Blk w g t old)
    (hi : (P.info? ty).map (·.size) = some cs.size) (hs : old.size = cs.size) (h1 : cs.all (·.oneCell') = true)
    (h : wpListIn F n P ops Q rest (a.put o.dst undef) (w.setRow g cs)) : wpListIn F n P ops Q (o :: rest) a w := by
  refine wpListIn_plain hgd fun K hK => ?_
  unfold Oper.wpIn
  refine ⟨by simp [Oper.about, ho], ?_⟩
  rw [Oper.semAt_plain F _ _ (by rw [ho]; intro c hc'; cases hc')]
  simp only [execOp, ho, hx, hy, Instr.storeAt, Instr.sureAddr, Sem.run_bind, Sem.run_pure, Result.andThen_ok, run_storeVar_row w g t ty old cs hg hi hs h1]
  exact hK _ _ h
/-- A block that is laid and filled at once. -/
theorem alloc_setRow (w : World) (t : TypeId) (z cs : Array Value) : (w.alloc (.cells z t)).setRow w.heap.size cs = w.alloc (.cells cs t) := by
  have h : ∀ (a : Array Obj) (o : Obj) (f : Obj → Obj), (a.push o).modify a.size f = a.push (f o) := by
    intro a o f
    apply Array.ext_getElem?
    intro i
    rw [Array.getElem?_modify, Array.getElem?_push, Array.getElem?_push]
    by_cases hi : a.size = i
    · subst hi; simp
    · rw [if_neg hi, if_neg (Ne.symm hi), if_neg (Ne.symm hi)]
  unfold World.setRow World.alloc
  rw [h]
end
/-- What a loop's body keeps: all cells, but those of X. -/
def Kx (X : Nat → Prop) (W W' : World) : Prop := W.heap.size ≤ W'.heap.size ∧ ∀ k cs t z, ¬ X k → W.heap[k]? = some (.cells cs t z) → W'.heap[k]? = some (.cells cs t z)
theorem Kx_t {X : Nat → Prop} {A B C : World} (h : Kx X A B) (k : Kx X B C) : Kx X A C := ⟨Nat.le_trans h.1 k.1, fun i cs t z hX hi => k.2 i cs t z hX (h.2 i cs t z hX hi)⟩
theorem Kx_b {X : Nat → Prop} {w : World} (W : World) (l : Nat) (o o' : Obj) (_ : w.heap.size ≤ l) (h : W.heap[l]? = some o) (ho : o.isCells = false) (_ : o.isWalk = false) : Kx X W (W.putObj l o') :=
  ⟨by simp, fun k cs t z _ hk => by
    have : k ≠ l := by
      intro e
      rw [← e, hk] at h
      cases h
      cases ho
    exact (World.putObj_heap_other this).trans hk⟩
theorem Kx.refl (X : Nat → Prop) (W : World) : Kx X W W := ⟨Nat.le_refl _, fun _ _ _ _ _ h => h⟩
theorem Kx.set {X : Nat → Prop} (W : World) (p : Addr) (v : Value) (h : X p.block) : Kx X W (W.setCell p v) :=
  ⟨by simp [World.setCell], fun k cs t z hX hk => (Below.heap_setCell W p v k (fun e => hX (e ▸ h))).trans hk⟩
theorem Kx.setRow {X : Nat → Prop} (W : World) (g : Nat) (cs' : Array Value) (h : X g) : Kx X W (W.setRow g cs') :=
  ⟨by simp, fun k cs t z hX hk => (setRow_other W g k cs' (fun e => hX (e ▸ h))).trans hk⟩
theorem Kx.alloc {X : Nat → Prop} (W : World) (o : Obj) : Kx X W (W.alloc o) :=
  ⟨by simp, fun k cs t z hX hk => (Below.heap_alloc W o k (by
    rcases Nat.lt_or_ge k W.heap.size with h | h
    · exact h
    · rw [Array.getElem?_eq_none h] at hk; cases hk)).trans hk⟩
theorem Kx.blk {X : Nat → Prop} {W W' : World} (h : Kx X W W') {g : Nat} {t : TypeId} {cs : Array Value} (hX : ¬ X g) (hg : Blk W g t cs) : Blk W' g t cs := h.2 g cs t (0, 0) hX hg
end Go.Proofs.Ytoomlbphnadlpaa

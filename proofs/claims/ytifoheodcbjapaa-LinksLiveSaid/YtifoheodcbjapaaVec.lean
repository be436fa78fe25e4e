/-
Vectors as twelve cells. No program is named here.
-/
import Derived.Below
import Derived.Laws.Rows
import Derived.Laws.World
import Derived.Deep.MidRow
import Derived.Deep.WholeRow
import Derived.BigFrame
import Derived.Laws.CopyOwn
namespace Go.Proofs.Ytifoheodcbjapaa
open Go.RowKit

/-- The twelve cells of a vector. -/
def vl (f : Nat → Nat) : List Value := (List.range 12).map fun i => Value.int .u32 (f i : Nat)
theorem vl_len (f : Nat → Nat) : (vl f).length = 12 := by simp [vl]
theorem vl_size (f : Nat → Nat) : (vl f).toArray.size = 12 := by simp [vl]
theorem vl_get {f : Nat → Nat} {k : Nat} (h : k < 12) : (vl f)[k]? = some (.int .u32 (f k : Nat)) := by unfold vl; rw [List.getElem?_map, List.getElem?_range h]; rfl
theorem vl_ext {f g : Nat → Nat} (h : ∀ i, i < 12 → f i = g i) : vl f = vl g := by
  unfold vl
  apply List.map_congr_left
  intro i hi
  rw [h i (List.mem_range.1 hi)]
theorem vl_inj {f g : Nat → Nat} (h : vl f = vl g) : ∀ i, i < 12 → f i = g i := by
  intro i hi
  have := congrArg (fun a : List Value => a[i]?) h
  simp only [vl_get hi, Option.some.injEq, Value.int.injEq, true_and] at this
  omega
theorem vl_one (f : Nat → Nat) : ∀ v ∈ vl f, v.oneCell' = true := by
  intro v hv
  unfold vl at hv
  obtain ⟨i, _, rfl⟩ := List.mem_map.1 hv
  rfl
theorem vl_all (f : Nat → Nat) : (vl f).toArray.all (·.oneCell') = true := all_oneCell_toArray (vl_one f)
theorem vl_set {f : Nat → Nat} {k x : Nat} : (vl f).set k (.int .u32 (x : Nat)) = vl (fun i => if i = k then x else f i) := by
  apply List.ext_getElem?
  intro i
  rw [List.getElem?_set]
  by_cases hi : i < 12
  · rw [vl_get hi, vl_get hi, vl_len]
    by_cases hk : k = i
    · subst hk; rw [if_pos rfl, if_pos hi, if_pos rfl]
    · rw [if_neg hk, if_neg (Ne.symm hk)]
  · have h1 : ∀ f, (vl f)[i]? = none := fun f => List.getElem?_eq_none (by rw [vl_len]; omega)
    rw [h1, h1, vl_len]
    by_cases hk : k = i
    · rw [if_pos hk, if_neg (by omega)]
    · rw [if_neg hk]
/-- The first k of h, the others of f. -/
def mixK (h f : Nat → Nat) (k : Nat) : Nat → Nat := fun i => if i < k then h i else f i
theorem mixK_at (h f : Nat → Nat) (k : Nat) : mixK h f k k = f k := by simp [mixK]
theorem mixK_zero (h f : Nat → Nat) : mixK h f 0 = f := by funext i; simp [mixK]
theorem mixK_all (h f : Nat → Nat) : ∀ i, i < 12 → mixK h f 12 i = h i := by intro i hi; simp [mixK, hi]
theorem mixK_next (h f : Nat → Nat) (k : Nat) {x : Int} (hx : x = (h k : Nat)) : (vl (mixK h f k)).set k (.int .u32 x) = vl (mixK h f (k + 1)) := by
  rw [hx, vl_set]
  apply vl_ext
  intro i _
  unfold mixK
  by_cases h : i = k
  · subst h; simp
  · rw [if_neg h]
    by_cases h2 : i < k
    · rw [if_pos h2, if_pos (by omega)]
    · rw [if_neg h2, if_neg (by omega)]
theorem mixK_same (h f : Nat → Nat) (k : Nat) (hk : h k = f k) : vl (mixK h f k) = vl (mixK h f (k + 1)) := by
  apply vl_ext
  intro i _
  unfold mixK
  by_cases h2 : i < k
  · rw [if_pos h2, if_pos (by omega)]
  · rw [if_neg h2]
    by_cases h3 : i < k + 1
    · rw [if_pos h3]; obtain rfl : i = k := by omega
      exact hk.symm
    · rw [if_neg h3]
attribute [irreducible] mixK
theorem vl_zero : (vl (fun _ => 0)).toArray = #[.int .u32 0, .int .u32 0, .int .u32 0, .int .u32 0, .int .u32 0, .int .u32 0, .int .u32 0, .int .u32 0, .int .u32 0, .int .u32 0, .int .u32 0, .int .u32 0] := rfl
attribute [irreducible] vl

/-- Block g is just these cells. -/
def Blk (w : World) (g : Nat) (t : TypeId) (cs : Array Value) : Prop := w.heap[g]? = some (.cells cs t (0, 0))

section
variable {w w' : World} {g : Nat} {t : TypeId} {cs : Array Value}
theorem Blk.lt (h : Blk w g t cs) : g < w.heap.size := by
  rcases Nat.lt_or_ge g w.heap.size with hlt | hge
  · exact hlt
  · unfold Blk at h; rw [Array.getElem?_eq_none hge] at h; cases h
theorem Blk.cell (h : Blk w g t cs) (i : Nat) : w.cell? ⟨g, i, none⟩ = cs[i]? := cell_of_row w g i cs t (0, 0) h
theorem Blk.frozen (h : Blk w g t cs) (i : Nat) : w.frozen? ⟨g, i, none⟩ = false := by
  unfold Blk at h
  simp [World.frozen?, h]
theorem Blk.new (w : World) (t : TypeId) (cs : Array Value) : Blk (w.alloc (.cells cs t)) w.heap.size t cs := heap_alloc_new w _
theorem Blk.new' {w : World} {g : Nat} {t : TypeId} {cs : Array Value} (h : g = w.heap.size) : Blk (w.alloc (.cells cs t)) g t cs := h ▸ heap_alloc_new w _
theorem Blk.newRow {w : World} {g : Nat} {t : TypeId} {c cs : Array Value} (h : g = w.heap.size) : Blk ((w.alloc (.cells c t)).setRow g cs) g t cs := h ▸ setRow_heap _ _ c cs t (0, 0) (heap_alloc_new w _)
theorem Blk.drew (h : Blk w g t cs) : Blk w.drew g t cs := h
theorem Blk.alloc (h : Blk w g t cs) (o : Obj) : Blk (w.alloc o) g t cs := (Below.heap_alloc w o g h.lt).trans h
theorem Blk.setCell (h : Blk w g t cs) (i : Nat) (u : Value) : Blk (w.setCell ⟨g, i, none⟩ u) g t (cs.setIfInBounds i u) := by
  unfold Blk at h ⊢
  simp [World.setCell, Array.getElem?_modify, h]
theorem Blk.far (h : Blk w g t cs) {p : Addr} (hp : g ≠ p.block) (u : Value) : Blk (w.setCell p u) g t cs := (Below.heap_setCell w p u g hp).trans h
theorem Blk.setRow (h : Blk w g t cs) (cs' : Array Value) : Blk (w.setRow g cs') g t cs' := setRow_heap w g cs cs' t (0, 0) h
theorem Blk.farRow (h : Blk w g t cs) {k : Nat} (hk : g ≠ k) (cs' : Array Value) : Blk (w.setRow k cs') g t cs := (setRow_other w k g cs' hk).trans h
theorem Blk.below {B : Nat} (h : Blk w g t cs) (hb : Below B w w') (hg : g < B) : Blk w' g t cs := (hb.block g hg).trans h
theorem Blk.next (h : Blk w g t cs) (hb : Below w.heap.size w w') : Blk w' g t cs := h.below hb h.lt
theorem Blk.next' (hb : Below w.heap.size w w') (h : Blk w g t cs) : Blk w' g t cs := h.next hb
theorem Blk.setRow' (h : ∃ c, Blk w g t c) : Blk (w.setRow g cs) g t cs := h.elim fun _ h => h.setRow cs
theorem Blk.range {cs : List Value} (h : Blk w g t cs.toArray) : w.rangeAt g 0 cs := fun j v hv => by
  rw [Nat.zero_add, h.cell j]; simpa using hv
end

theorem below_size {B : Nat} {w w' : World} (h : Below B w w') : w.heap.size ≤ w'.heap.size := h.size
theorem below_next {B : Nat} {w0 W W' : World} (hb : Below W.heap.size W W') (hB : B ≤ W.heap.size) (h : Below B w0 W) : Below B w0 W' := h.trans (hb.mono hB)
theorem cell_next {W W' : World} {p : Addr} {v : Value} (hb : Below W.heap.size W W') (h : W.cell? p = some v) : W'.cell? p = some v := by
  rw [hb.cell (World.block_lt_of_cell? W p h)]; exact h
theorem cell_alloc {W : World} {p : Addr} {v : Value} {o : Obj} (h : W.cell? p = some v) : (W.alloc o).cell? p = some v := by
  rw [World.cell?_alloc_lt _ _ _ (World.block_lt_of_cell? W p h)]; exact h
theorem cell_new {W : World} {g i : Nat} {t : TypeId} {cs : Array Value} {v : Value} (hg : g = W.heap.size) (hc : cs[i]? = some v) : (W.alloc (.cells cs t)).cell? ⟨g, i, none⟩ = some v := by
  subst hg
  rw [cell_of_row _ _ _ _ _ _ (heap_alloc_new W _)]; exact hc
theorem cell_drew {W : World} {p : Addr} {v : Value} (h : W.cell? p = some v) : W.drew.cell? p = some v := h
theorem cell_blk {W : World} {g i : Nat} {t : TypeId} {cs : Array Value} {v : Value} (h : Blk W g t cs) (hc : cs[i]? = some v) : W.cell? ⟨g, i, none⟩ = some v := by
  rw [h.cell]; exact hc
theorem below_next' {w0 W W' : World} (hb : Below W.heap.size W W') (h : Below w0.heap.size w0 W) : Below w0.heap.size w0 W' := h.trans (hb.mono h.size)
theorem below_alloc' {w0 W : World} {o : Obj} (h : Below w0.heap.size w0 W) : Below w0.heap.size w0 (W.alloc o) := h.alloc h.size o
theorem size_alloc {W : World} {n : Nat} {o : Obj} (h : n ≤ W.heap.size) : n ≤ (W.alloc o).heap.size := by simp; omega
theorem size_setRow' {W : World} {n g : Nat} {cs : Array Value} (h : n ≤ W.heap.size) : n ≤ (W.setRow g cs).heap.size := by simpa using h
theorem size_setCell' {W : World} {n : Nat} {p : Addr} {v : Value} (h : n ≤ W.heap.size) : n ≤ (W.setCell p v).heap.size := by simpa [World.setCell] using h
theorem size_next {W W' : World} {n : Nat} (hb : Below W.heap.size W W') (h : n ≤ W.heap.size) : n ≤ W'.heap.size := Nat.le_trans h hb.size
theorem bcell {W w1 : World} (hb : Below W.heap.size W w1) : (∀ b o, b < W.heap.size → w1.cell? ⟨b, o, none⟩ = W.cell? ⟨b, o, none⟩) ∧ (∀ b o, b < W.heap.size → w1.frozen? ⟨b, o, none⟩ = W.frozen? ⟨b, o, none⟩) :=
  ⟨fun b o h => hb.cell (p := ⟨b, o, none⟩) h, fun b o h => hb.frozen (p := ⟨b, o, none⟩) h⟩

section
variable {P : Program}
/-- The result that lies in a block of its own. -/
theorem results_row {fn : Func} {p : Tmp} {ty : TypeId} (h : fn.results = #[.cell p ty]) (tmps : Array Value) (w : World) (g : Nat) (t : TypeId) (cs : Array Value) (d : TypeDesc)
    (hp : tmps.getD p undef = .pointer (some ⟨g, 0, none⟩)) (hg : Blk w g t cs)
    (hu : P.underlying ty = some d) (hd : (match d with | .struct _ | .array _ _ => true | _ => false) = true) (hi : (P.info? ty).map (·.size) = some cs.size) :
    (results fn tmps).run P w = .ok (.agg cs) w := results_cell_row h tmps w g t cs (0, 0) d hp hg hu hd hi
theorem bodyPost_row {fn : Func} {R : Ending → World → Prop} {a : Act} {p : Tmp} {ty : TypeId} {w : World} {g : Nat} {t : TypeId} (cs : Array Value) {d : TypeDesc} (h : fn.results = #[.cell p ty]) (ha : a.defers = [])
    (hp : a.tmps.getD p undef = .pointer (some ⟨g, 0, none⟩))
    (hu : P.underlying ty = some d) (hd : (match d with | .struct _ | .array _ _ => true | _ => false) = true) (hi : (P.info? ty).map (·.size) = some cs.size) (hg : Blk w g t cs)
    (hR : R (.returned (.agg cs)) w) : bodyPost P fn R .ret a w :=
  bodyPost_ret (results_row h _ w g t cs d hp hg hu hd hi) ha hR
theorem wpList_load_blk {ops : Array Oper} {rest : List Oper} {o : Oper} {a : Act} {w : World} {Q : Exit → Act → World → Prop} (hgd : Region.wanted o (yielded ops a.tmps) = true) (ty : TypeId) (x : Operand) (ho : o.op = .load ty x)
    (g : Nat) (hx : a.eval x = .pointer (some ⟨g, 0, none⟩)) (t : TypeId) (cs : Array Value) (d : TypeDesc) (hg : Blk w g t cs)
    (hu : P.underlying ty = some d) (hd : (match d with | .struct _ | .array _ _ => true | _ => false) = true) (hi : (P.info? ty).map (·.size) = some cs.size)
    (h : wpList P ops Q rest (a.put o.dst (.agg cs)) w) : wpList P ops Q (o :: rest) a w :=
  wpList_step fun K hK => by
    rw [if_pos hgd]
    exact wp_load_row ty x ho g hx t cs (0, 0) d hg hu hd hi (hK _ _ h)
theorem wpList_store_blk {ops : Array Oper} {rest : List Oper} {o : Oper} {a : Act} {w : World} {Q : Exit → Act → World → Prop} (hgd : o.guard = none) (ty : TypeId) (x y : Operand) (ho : o.op = .store ty x y)
    (g : Nat) (t : TypeId) (old cs : Array Value) (hx : a.eval x = .pointer (some ⟨g, 0, none⟩)) (hy : a.eval y = .agg cs) (hg : Blk w g t old)
    (hi : (P.info? ty).map (·.size) = some cs.size) (hs : old.size = cs.size) (h1 : cs.all (·.oneCell') = true)
    (h : Blk (w.setRow g cs) g t cs → wpList P ops Q rest (a.put o.dst undef) (w.setRow g cs)) : wpList P ops Q (o :: rest) a w := by
  refine wpList_plain hgd fun K hK => ?_
  unfold Oper.wp execOp
  simp only [ho, hx, hy, Instr.storeAt, Instr.sureAddr, Sem.run_bind, Sem.run_pure, Result.andThen_ok, run_storeVar_row w g t ty old cs hg hi hs h1]
  exact hK _ _ (h (hg.setRow cs))
end
end Go.Proofs.Ytifoheodcbjapaa

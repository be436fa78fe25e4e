/-
tree: a tree that came in.
-/
import Derived.Test.YtohnhokddbeheaaTr4
import Derived.Test.YtohnhokddbeheaaOpenG
namespace Go.Proofs.Ytohnhokddbeheaa
open Go.RowKit Go.ChangeShapes Go.WideShapes Go.ChangeAt Go.WideElems
set_option linter.unusedSimpArgs false
set_option linter.unusedVariables false
namespace Tr
theorem own_knob : ownKnob Try.prog.godebug = none := by kernel_rfl
theorem laid_out : laidOutB Try.prog = true := by kernel_rfl
theorem okWide_struct {P : Program} {w : World} {r : Reach} {base : Nat} {t : TypeId} {fs : Array Field} {v : Value} (ht : P.underlying t = some (.struct fs)) (h : Value.okWide P w r base t v) : ∃ cs, v = .agg cs ∧ cs.size = P.cellsOf t := by
  simp only [Value.okWide, ht] at h
  obtain ⟨cs, h1, h2, _⟩ := h
  exact ⟨cs, h1, h2⟩
section
variable {H : Type} {enc : TypeId × Value → H} {w : World}
theorem cells_int : Try.prog.cellsOf 3 = 1 := by kernel_rfl
theorem cells_kinds : Try.prog.cellsOf 22 = 12 := by kernel_rfl
theorem cells_edges : Try.prog.cellsOf 23 = 1 := by kernel_rfl
theorem cells_edge : Try.prog.cellsOf 75 = 2 := by kernel_rfl
theorem cells_tree : Try.prog.cellsOf 25 = 13 := by kernel_rfl
theorem kl_of {cs : List Value} (hl : cs.length = 12) (h : ∀ i, i < 12 → ∃ n : Int, cs[i]? = some (.int .i64 n)) : ∃ k : Nat → Int, cs = kl k := by
  obtain ⟨k, hk⟩ : ∃ k : Nat → Int, ∀ i, i < 12 → cs[i]? = some (.int .i64 (k i)) := by
    have : ∀ i, ∃ n : Int, i < 12 → cs[i]? = some (.int .i64 n) := by
      intro i
      by_cases hi : i < 12
      · obtain ⟨n, hn⟩ := h i hi
        exact ⟨n, fun _ => hn⟩
      · exact ⟨0, fun h => absurd h hi⟩
    exact ⟨fun i => (this i).choose, fun i => (this i).choose_spec⟩
  refine ⟨k, List.ext_getElem? fun i => ?_⟩
  by_cases hi : i < 12
  · rw [hk i hi, kl_get k hi]
  · rw [List.getElem?_eq_none (by omega), List.getElem?_eq_none (by rw [kl_len]; omega)]
set_option maxRecDepth 100000 in
theorem kinds_trod {base fuel : Nat} {sp : Nat → Bool} {hd : Bool} {cs : List Value} {x : DataW H × List MemPlace} (h : DataW.trod enc Try.prog w base sp hd fuel 22 cs = some x) : ∃ k : Nat → Int, cs = kl k := by
  obtain ⟨xs, m, _, _, hlen, hx, hg⟩ := DataW.trod_array Try.underlying22 h
  rw [cells_kinds] at hlen
  refine kl_of hlen fun i hi => ?_
  have h1 := hg i hi
  rw [cells_int, Nat.mul_one, List.drop_eq_getElem_cons (by omega), List.take_succ_cons, List.take_zero] at h1
  have h2 : xs[i]? = some (xs[i]'(by omega)) := List.getElem?_eq_getElem (by omega)
  rw [h2] at h1
  obtain ⟨n, e, _, hw⟩ := DataW.trod_int Try.underlying3 h1
  refine ⟨n, ?_⟩
  rw [List.getElem?_eq_getElem (by omega)]
  rw [(List.cons.inj e).1]
set_option maxRecDepth 100000 in
theorem edge_trod {base fuel : Nat} {hd : Bool} {cs : List Value} {x : DataW H × List MemPlace} (h : DataW.trod enc Try.prog w base (fun _ => true) hd fuel 75 cs = some x) : ∃ e : Int × Int, cs = ec e ∧ True := by
  obtain ⟨xs, m, _, hx, hcl, hlen, hg⟩ := DataW.trod_struct Try.underlying75 h
  rw [cells_edge] at hcl
  have g0 : DataW.trod enc Try.prog w base (fun _ => true) hd m 3 ((cs.drop 0).take (Try.prog.cellsOf 3)) = xs[0]? := hg 0 _ rfl
  have g1 : DataW.trod enc Try.prog w base (fun _ => true) hd m 3 ((cs.drop 1).take (Try.prog.cellsOf 3)) = xs[1]? := hg 1 _ rfl
  have hlen2 : xs.length = 2 := hlen
  clear hg hlen
  rw [cells_int] at g0 g1
  rw [List.getElem?_eq_getElem (by omega)] at g0 g1
  obtain ⟨a, e0, _, _⟩ := DataW.trod_int Try.underlying3 g0
  obtain ⟨b, e1, _, _⟩ := DataW.trod_int Try.underlying3 g1
  match cs, hcl with
  | [x0, x1], _ =>
    simp only [List.drop_zero, List.drop_succ_cons, List.take_succ_cons, List.take_zero, List.cons.injEq, and_true] at e0 e1
    exact ⟨(a, b), by rw [e0, e1]; rfl, trivial⟩
set_option maxRecDepth 100000 in
theorem tree_trod {fuel : Nat} {hd : Bool} {cs : List Value} {x : DataW H × List MemPlace} (h : DataW.trod enc Try.prog w 0 (fun _ => true) hd fuel 25 cs = some x) (hlt : ∀ y ∈ x.2, y.block < w.heap.size) :
    ∃ t : Tv, cs = t.cells ∧ RowsOf ec 2 w t.A t.es ∧ t.es.length ≤ t.c ∧ t.c ≤ 9223372036854775807 := by
  obtain ⟨xs, m, _, hx, hcl, hlen, hg⟩ := DataW.trod_struct Try.underlying25 h
  rw [cells_tree] at hcl
  have g0 : DataW.trod enc Try.prog w 0 (fun _ => true) hd m 22 ((cs.drop 0).take (Try.prog.cellsOf 22)) = xs[0]? := hg 0 _ rfl
  have g1 : DataW.trod enc Try.prog w 0 (fun _ => true) hd m 23 ((cs.drop 12).take (Try.prog.cellsOf 23)) = xs[1]? := hg 1 _ rfl
  have hlen2 : xs.length = 2 := hlen
  clear hg hlen
  rw [cells_kinds] at g0
  rw [cells_edges] at g1
  rw [List.getElem?_eq_getElem (by omega)] at g0 g1
  obtain ⟨k, e0⟩ := kinds_trod g0
  obtain ⟨A, c, es, e1, hc, hc2, hro, -⟩ := open_rows_cells Try.underlying23 2 cells_edge (by decide) ec (fun _ => True) (0, 0) (fun _ => rfl) g1 (fun y hy => hlt y (by rw [hx]; exact List.mem_flatMap.2 ⟨xs[1], List.getElem_mem (by omega), hy⟩)) (fun fuel hd cs x h _ => edge_trod h)
  refine ⟨⟨k, es, A, c⟩, ?_, hro, hc, hc2⟩
  unfold Tv.cells
  rw [← e0, ← e1]
  rw [List.drop_zero]
  have h2 : (cs.drop 12).take 1 = cs.drop 12 := List.take_of_length_le (by rw [List.length_drop]; omega)
  rw [h2, List.take_append_drop]
set_option maxRecDepth 100000 in
/-- A tree that came in. -/
theorem open_tree {r : Reach} {b0 : Nat} {v : Value} {d : DataW H} {ps : List MemPlace} (hv : Value.okWide Try.prog w r b0 25 v) (h : DataW.Trod enc Try.prog w 0 (fun _ => true) true 25 v d ps) (hlt : ∀ y ∈ ps, y.block < w.heap.size) :
    ∃ t : Tv, v = .agg t.cells.toArray ∧ RowsOf ec 2 w t.A t.es ∧ t.es.length ≤ t.c ∧ t.c ≤ 9223372036854775807 := by
  obtain ⟨vs, rfl, _⟩ := okWide_struct Try.underlying25 hv
  obtain ⟨fuel, hf⟩ := h
  obtain ⟨t, ex, hok⟩ := tree_trod hf hlt
  have ev : vs = t.cells.toArray := by
    have : vs.toList = t.cells := ex
    rw [← this]
  exact ⟨t, by rw [ev], hok⟩
end
end Tr
end Go.Proofs.Ytohnhokddbeheaa

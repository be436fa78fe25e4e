/-
Plain ops and items that came in.
-/
import Derived.Test.YtkigaclcmodjaaaGreatOp7
namespace Go.Proofs.YtkigaclcmodjaaaGreat
open Go.ChangeShapes Go.WideShapes Go.ChangeAt Go.RowKit
section
variable {H : Type} {enc : TypeId × Value → H} {w : World}
theorem cells_plain : Tryz.prog.cellsOf 29 = 4 := by kernel_rfl
theorem four_cells {cs : List Value} {a b c d : Value} (hl : cs.length = 4) (h0 : (cs.drop 0).take 1 = [a]) (h1 : (cs.drop 1).take 1 = [b]) (h2 : (cs.drop 2).take 1 = [c]) (h3 : (cs.drop 3).take 1 = [d]) : cs = [a, b, c, d] := by
  match cs, hl with
  | [x0, x1, x2, x3], _ =>
    simp only [List.drop_zero, List.drop_succ_cons, List.take_succ_cons, List.take_zero, List.cons.injEq, and_true] at h0 h1 h2 h3
    rw [h0, h1, h2, h3]
theorem plain_def (o : OpR) : o.plain = [.int .i64 o.k, .int .i64 o.s, .int .i64 o.q, .int .u64 (o.p : Nat)] := by
  have := congrArg Array.toList (plain_arr o)
  simpa using this
set_option maxRecDepth 100000 in
theorem open_plain_cells {base fuel : Nat} {sp : Nat → Bool} {hd : Bool} {cs : List Value} {x : DataW H × List MemPlace} (h : DataW.trod enc Tryz.prog w base sp hd fuel 29 cs = some x) : ∃ o : OpR, cs = o.plain ∧ o.Ok := by
  obtain ⟨xs, m, _, hx, hcl, hlen, hg⟩ := DataW.trod_struct Tryz.underlying29 h
  rw [cells_plain] at hcl
  have g0 : DataW.trod enc Tryz.prog w base sp hd m 3 ((cs.drop 0).take (Tryz.prog.cellsOf 3)) = xs[0]? := hg 0 _ rfl
  have g1 : DataW.trod enc Tryz.prog w base sp hd m 3 ((cs.drop 1).take (Tryz.prog.cellsOf 3)) = xs[1]? := hg 1 _ rfl
  have g2 : DataW.trod enc Tryz.prog w base sp hd m 3 ((cs.drop 2).take (Tryz.prog.cellsOf 3)) = xs[2]? := hg 2 _ rfl
  have g3 : DataW.trod enc Tryz.prog w base sp hd m 22 ((cs.drop 3).take (Tryz.prog.cellsOf 22)) = xs[3]? := hg 3 _ rfl
  have hlen4 : xs.length = 4 := hlen
  clear hg hlen
  rw [cells_int] at g0 g1 g2
  rw [cells_u64] at g3
  rw [List.getElem?_eq_getElem (by omega)] at g0 g1 g2 g3
  obtain ⟨k, e0, _, w0⟩ := DataW.trod_int Tryz.underlying3 g0
  obtain ⟨s, e1, _, w1⟩ := DataW.trod_int Tryz.underlying3 g1
  obtain ⟨q, e2, _, w2⟩ := DataW.trod_int Tryz.underlying3 g2
  obtain ⟨p, e3, _, w3⟩ := DataW.trod_int Tryz.underlying22 g3
  have b0 := bounds_i64 w0
  have b1 := bounds_i64 w1
  have b2 := bounds_i64 w2
  obtain ⟨p', rfl, b3⟩ := bound_u64 w3
  refine ⟨⟨k, s, q, p'⟩, ?_, ⟨b0.1, b0.2, b1.1, b1.2, b2.1, b2.2, b3⟩⟩
  rw [plain_def]
  exact four_cells hcl e0 e1 e2 e3
set_option maxRecDepth 100000 in
theorem open_plain {r : Reach} {b0 base : Nat} {sp : Nat → Bool} {hd : Bool} {v : Value} {d : DataW H} {p : List MemPlace} (hv : Value.okWide Tryz.prog w r b0 29 v) (h : DataW.Trod enc Tryz.prog w base sp hd 29 v d p) :
    ∃ o : OpR, v = .agg o.plain.toArray ∧ o.Ok := by
  obtain ⟨cs, rfl, _⟩ := okWide_struct Tryz.underlying29 hv
  obtain ⟨fuel, hf⟩ := h
  obtain ⟨l, e, hok⟩ := open_plain_cells hf
  exact ⟨l, by rw [← e]; rfl, hok⟩
theorem cells_item : Tryz.prog.cellsOf 31 = 21 := by kernel_rfl
theorem two_parts {cs a b : List Value} (hl : cs.length = 21) (h0 : (cs.drop 0).take 17 = a) (h1 : (cs.drop 17).take 4 = b) : cs = a ++ b := by
  rw [List.drop_zero] at h0
  rw [List.take_of_length_le (by rw [List.length_drop]; omega)] at h1
  rw [← h0, ← h1, List.take_append_drop]
set_option maxRecDepth 100000 in
theorem open_item_cells {base fuel : Nat} {sp : Nat → Bool} {hd : Bool} {cs : List Value} {x : DataW H × List MemPlace} (h : DataW.trod enc Tryz.prog w base sp hd fuel 31 cs = some x) : ∃ x : Ev, cs = x.item ∧ x.Ok := by
  obtain ⟨xs, m, _, hx, hcl, hlen, hg⟩ := DataW.trod_struct Tryz.underlying31 h
  rw [cells_item] at hcl
  have g0 : DataW.trod enc Tryz.prog w base sp hd m 27 ((cs.drop 0).take (Tryz.prog.cellsOf 27)) = xs[0]? := hg 0 _ rfl
  have g1 : DataW.trod enc Tryz.prog w base sp hd m 29 ((cs.drop 17).take (Tryz.prog.cellsOf 29)) = xs[1]? := hg 1 _ rfl
  have hlen2 : xs.length = 2 := hlen
  clear hg hlen
  rw [cells_lab] at g0
  rw [cells_plain] at g1
  rw [List.getElem?_eq_getElem (by omega)] at g0 g1
  obtain ⟨l, e0, hl⟩ := open_lab_cells g0
  obtain ⟨o, e1, ho⟩ := open_plain_cells g1
  exact ⟨⟨l, o⟩, by rw [item_def]; exact two_parts hcl e0 e1, ⟨hl, ho⟩⟩
set_option maxRecDepth 100000 in
theorem open_item {r : Reach} {b0 base : Nat} {sp : Nat → Bool} {hd : Bool} {v : Value} {d : DataW H} {p : List MemPlace} (hv : Value.okWide Tryz.prog w r b0 31 v) (h : DataW.Trod enc Tryz.prog w base sp hd 31 v d p) :
    ∃ x : Ev, v = .agg x.item.toArray ∧ x.Ok := by
  obtain ⟨cs, rfl, _⟩ := okWide_struct Tryz.underlying31 hv
  obtain ⟨fuel, hf⟩ := h
  obtain ⟨l, e, hok⟩ := open_item_cells hf
  exact ⟨l, by rw [← e]; rfl, hok⟩
end
end Go.Proofs.YtkigaclcmodjaaaGreat

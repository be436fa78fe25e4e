/-
peers: ops that came in; two shards' peers side by side; what one seller's ops tell hangs on that seller alone.
-/
import Derived.Test.YtlceljcplmcjgaaPe12
import Derived.Test.YtlceljcplmcjgaaLaw
import Derived.Test.YtlceljcplmcjgaaOpenG
namespace Go.Proofs.Ytlceljcplmcjgaa
open Go.RowKit Go.ChangeShapes Go.WideShapes Go.ChangeAt Go.WideElems
set_option linter.unusedSimpArgs false
set_option linter.unusedVariables false
namespace Pe
theorem own_knob : ownKnob Try.prog.godebug = none := by kernel_rfl
theorem laid_out : laidOutB Try.prog = true := by kernel_rfl
theorem op_len (o : Op4) : o.cells.length = 4 := rfl
theorem opinfo (o : Op4) : (Try.prog.info? 36).map (·.size) = some o.cells.length := by rw [op_len]; kernel_rfl
theorem cells_op : Try.prog.cellsOf 36 = 4 := by kernel_rfl
theorem cells_one4 : Try.prog.cellsOf 3 = 1 ∧ Try.prog.cellsOf 4 = 1 := ⟨by kernel_rfl, by kernel_rfl⟩
theorem four_cells {cs : List Value} {a b c d : Value} (hl : cs.length = 4) (h0 : (cs.drop 0).take 1 = [a]) (h1 : (cs.drop 1).take 1 = [b]) (h2 : (cs.drop 2).take 1 = [c]) (h3 : (cs.drop 3).take 1 = [d]) : cs = [a, b, c, d] := by
  match cs, hl with
  | [x0, x1, x2, x3], _ =>
    simp only [List.drop_zero, List.drop_succ_cons, List.take_succ_cons, List.take_zero, List.cons.injEq, and_true] at h0 h1 h2 h3
    rw [h0, h1, h2, h3]
set_option maxRecDepth 100000 in
theorem open_op {H : Type} {enc : TypeId × Value → H} {w : World} {base fuel : Nat} {hd : Bool} {cs : List Value} {x : DataW H × List MemPlace} (h : DataW.trod enc Try.prog w base (fun _ => true) hd fuel 36 cs = some x) : ∃ p : Op4, cs = p.cells ∧ True := by
  obtain ⟨xs, m, _, hx, hcl, hlen, hg⟩ := DataW.trod_struct Try.underlying36 h
  rw [cells_op] at hcl
  have g0 : DataW.trod enc Try.prog w base (fun _ => true) hd m 3 ((cs.drop 0).take (Try.prog.cellsOf 3)) = xs[0]? := hg 0 _ rfl
  have g1 : DataW.trod enc Try.prog w base (fun _ => true) hd m 3 ((cs.drop 1).take (Try.prog.cellsOf 3)) = xs[1]? := hg 1 _ rfl
  have g2 : DataW.trod enc Try.prog w base (fun _ => true) hd m 3 ((cs.drop 2).take (Try.prog.cellsOf 3)) = xs[2]? := hg 2 _ rfl
  have g3 : DataW.trod enc Try.prog w base (fun _ => true) hd m 4 ((cs.drop 3).take (Try.prog.cellsOf 4)) = xs[3]? := hg 3 _ rfl
  have hlen4 : xs.length = 4 := hlen
  clear hg hlen
  rw [cells_one4.1] at g0 g1 g2
  rw [cells_one4.2] at g3
  rw [List.getElem?_eq_getElem (by omega)] at g0 g1 g2 g3
  obtain ⟨k, e0, _, _⟩ := DataW.trod_int Try.underlying3 g0
  obtain ⟨s, e1, _, _⟩ := DataW.trod_int Try.underlying3 g1
  obtain ⟨n, e2, _, _⟩ := DataW.trod_int Try.underlying3 g2
  obtain ⟨y, e3, _⟩ := DataW.trod_bool Try.underlying4 g3
  exact ⟨⟨k, s, n, y⟩, four_cells hcl e0 e1 e2 e3, trivial⟩
/-- Rows of ops. -/
theorem op_row {W w : World} {A : Option Addr} {l : List Op4} (h : RowsOf Op4.cells 4 W A l) (hb : Below W.heap.size W w) {i : Nat} {x : Op4} (hx : l[i]? = some x) : ∃ b o, A = some ⟨b, o, none⟩ ∧ b < W.heap.size ∧ w.rangeAt b (o + i * 4) x.cells := by
  rcases h with rfl | ⟨b, o, e, h1, h2⟩
  · simp at hx
  · have hi := (List.getElem?_eq_some_iff.1 hx)
    refine ⟨b, o, e, h1, fun j v hv => (hb.cell (p := ⟨b, o + i * 4 + j, none⟩) h1).trans (h2 i hi.1 j v ?_)⟩
    rw [hi.2]; exact hv
theorem op_row2 {W : World} {A : Option Addr} {l : List Op4} (h : RowsOf Op4.cells 4 W A l) {b o i : Nat} {x : Op4} (hA : A = some ⟨b, o, none⟩) (hx : l[i]? = some x) : ∀ w, Below W.heap.size W w → w.rangeAt b (o + i * 4) x.cells := fun w hb => by
  obtain ⟨b2, o2, e2, _, h2⟩ := op_row h hb hx
  rw [hA] at e2
  simp only [Option.some.injEq, Addr.mk.injEq, and_true] at e2
  obtain ⟨rfl, rfl⟩ := e2
  exact h2
theorem load_midg {P : Program} {ops : Array Oper} {rest : List Oper} {op : Oper} {a : Act} {w : World} {Q : Exit → Act → World → Prop} (hw : Region.wanted op (yielded ops a.tmps) = true) (ty : TypeId) (x : Operand) (ho : op.op = .load ty x)
    (b o : Nat) (hx : a.eval x = .pointer (some ⟨b, o, none⟩)) (cs : List Value) (d : TypeDesc) (hc : w.rangeAt b o cs)
    (hu : P.underlying ty = some d) (hd : d.isRow = true) (hi : (P.info? ty).map (·.size) = some cs.length)
    (h : wpList P ops Q rest (a.put op.dst (.agg cs.toArray)) w) : wpList P ops Q (op :: rest) a w :=
  wpList_step fun _ hK => by
    rw [if_pos hw]
    exact wp_load_mid ty x ho b o hx cs d hc hu hd hi (hK _ _ h)
/-- Two shards' peers, apart; all below is as it was. -/
structure Duo (W w : World) (p q : Nat) (x y : PS) : Prop where
  hp : PP w W.heap.size p x
  hq : PP w W.heap.size q y
  ne : p ≠ q
  b : Below W.heap.size W w
  ox : x.Ok
  oy : y.Ok
section
variable {W w w' : World} {p q : Nat} {x y : PS}
theorem Duo.next (h : Duo W w p q x y) (hb : Below w.heap.size w w') : Duo W w' p q x y := ⟨h.hp.next hb, h.hq.next hb, h.ne, h.b.trans (hb.mono h.b.size), h.ox, h.oy⟩
theorem Duo.symm (h : Duo W w p q x y) : Duo W w q p y x := ⟨h.hq, h.hp, h.ne.symm, h.b, h.oy, h.ox⟩
theorem Duo.do1 (h : Duo W w p q x y) (o : Op4) : Calls Try.prog 9 #[.pointer (some ⟨p, 0, none⟩), .agg o.cells.toArray] w fun e w' => e = .returned (.int .i64 (x.doF o).1) ∧ Duo W w' p q (x.doF o).2 y ∧ Tn W.heap.size p w w' :=
  (do_any w h.hp h.ox o).mono (by
    rintro e w' ⟨rfl, hp, ht⟩
    exact ⟨rfl, ⟨hp, ht.pp h.hq h.ne.symm, h.ne, h.b.trans ht.1, do_ok h.ox o, h.oy⟩, ht⟩)
theorem Duo.do2 (h : Duo W w p q x y) (o : Op4) : Calls Try.prog 9 #[.pointer (some ⟨q, 0, none⟩), .agg o.cells.toArray] w fun e w' => e = .returned (.int .i64 (y.doF o).1) ∧ Duo W w' p q x (y.doF o).2 ∧ Tn W.heap.size q w w' :=
  (h.symm.do1 o).mono (by
    rintro e w' ⟨rfl, hd, ht⟩
    exact ⟨rfl, hd.symm, ht⟩)
end
/-! One seller's part. -/
structure Agree (s : Int) (x y : PS) : Prop where
  n : x.n = y.n
  st : x.stV s = y.stV s
  pe : x.peV s = y.peV s
section
variable {s : Int} {x y z : PS}
theorem Agree.refl (s : Int) (x : PS) : Agree s x x := ⟨rfl, rfl, rfl⟩
theorem Agree.trans (h : Agree s x y) (k : Agree s y z) : Agree s x z := ⟨h.n.trans k.n, h.st.trans k.st, h.pe.trans k.pe⟩
theorem Agree.symm (h : Agree s x y) : Agree s y x := ⟨h.n.symm, h.st.symm, h.pe.symm⟩
theorem Agree.has (h : Agree s x y) (m : Int) : x.hasV s m = y.hasV s m := by unfold PS.hasV; rw [h.pe]
theorem Agree.other (h : Agree s x y) (m : Int) : x.otherV m = y.otherV m := by unfold PS.otherV; rw [h.n]
theorem Agree.of (h : Agree s x y) : x.ofL s = y.ofL s := by unfold PS.ofL; rw [h.pe]
theorem set_n (x : PS) (k : Nat) (t : Int) : (x.set k t).n = x.n := by unfold PS.set; split <;> rfl
/-- Another seller's is as it was. -/
theorem agree_set {n : Int} (hn : numB n = true) (hs : n ≠ s) (t : Int) : Agree s (x.set (n - 1).toNat t) x := by
  have h1 := num_in.1 hn
  have hk : ∀ i : Nat, numB s = true → i = (s - 1).toNat → ¬ i = (n - 1).toNat := fun i h2 h3 => by have := num_in.1 h2; omega
  refine ⟨set_n _ _ _, ?_, ?_⟩
  · unfold PS.stV
    rw [set_n]
    by_cases hc : x.n ≠ 0 ∧ numB s = true
    · rw [if_pos hc, if_pos hc]
      unfold PS.set PS.clear PS.setSt
      split <;> (dsimp only; rw [if_neg (hk _ hc.2 rfl)])
    · rw [if_neg hc, if_neg hc]
  · unfold PS.peV
    rw [set_n]
    by_cases hc : x.n ≠ 0 ∧ numB s = true
    · rw [if_pos hc, if_pos hc]
      unfold PS.set PS.clear PS.setSt
      split
      · dsimp only; funext l; rw [if_neg (hk _ hc.2 rfl)]
      · rfl
    · rw [if_neg hc, if_neg hc]
theorem agree_setPe {n : Int} (hn : numB n = true) (hs : n ≠ s) (j : Nat) (b : Bool) : Agree s (x.setPe (n - 1).toNat j b) x := by
  have h1 := num_in.1 hn
  have hk : ∀ i : Nat, numB s = true → i = (s - 1).toNat → ¬ i = (n - 1).toNat := fun i h2 h3 => by have := num_in.1 h2; omega
  refine ⟨rfl, rfl, ?_⟩
  unfold PS.peV
  by_cases hc : x.n ≠ 0 ∧ numB s = true
  · rw [if_pos (show (x.setPe (n - 1).toNat j b).n ≠ 0 ∧ numB s = true from hc), if_pos hc]
    unfold PS.setPe
    dsimp only
    funext l
    rw [if_neg (fun h => hk _ hc.2 rfl h.1)]
  · rw [if_neg (show ¬ ((x.setPe (n - 1).toNat j b).n ≠ 0 ∧ numB s = true) from hc), if_neg hc]
/-- The same seller's goes together. -/
theorem Agree.set (h : Agree s x y) (t : Int) : Agree s (x.set (s - 1).toNat t) (y.set (s - 1).toNat t) := by
  refine ⟨by rw [set_n, set_n]; exact h.n, ?_, ?_⟩
  · unfold PS.stV
    rw [set_n, set_n, h.n]
    by_cases hc : y.n ≠ 0 ∧ numB s = true
    · rw [if_pos hc, if_pos hc]
      unfold PS.set PS.clear PS.setSt
      split <;> (dsimp only; rw [if_pos rfl, if_pos rfl])
    · rw [if_neg hc, if_neg hc]
  · have hp := h.pe
    unfold PS.peV at hp ⊢
    rw [set_n, set_n, h.n]
    rw [h.n] at hp
    by_cases hc : y.n ≠ 0 ∧ numB s = true
    · rw [if_pos hc, if_pos hc]
      rw [if_pos hc, if_pos hc] at hp
      unfold PS.set PS.clear PS.setSt
      split
      · dsimp only; funext l; rw [if_pos rfl, if_pos rfl]
      · exact hp
    · rw [if_neg hc, if_neg hc]
theorem Agree.setPe (h : Agree s x y) (j : Nat) (b : Bool) : Agree s (x.setPe (s - 1).toNat j b) (y.setPe (s - 1).toNat j b) := by
  refine ⟨h.n, h.st, ?_⟩
  have hp := h.pe
  unfold PS.peV at hp ⊢
  rw [show (x.setPe (s - 1).toNat j b).n = y.n from h.n, show (y.setPe (s - 1).toNat j b).n = y.n from rfl]
  rw [h.n] at hp
  by_cases hc : y.n ≠ 0 ∧ numB s = true
  · rw [if_pos hc, if_pos hc]
    rw [if_pos hc, if_pos hc] at hp
    unfold PS.setPe
    dsimp only
    funext l
    have hl := congrFun hp l
    by_cases hlj : l = j
    · rw [if_pos ⟨rfl, hlj⟩, if_pos ⟨rfl, hlj⟩]
    · rw [if_neg (fun h => hlj h.2), if_neg (fun h => hlj h.2)]; exact hl
  · rw [if_neg hc, if_neg hc]
theorem found_same (h : Agree s x y) : (x.foundF s).1 = (y.foundF s).1 ∧ Agree s (x.foundF s).2 (y.foundF s).2 := by
  unfold PS.foundF
  rw [h.st]
  by_cases h1 : numB s = true
  · rw [if_pos h1, if_pos h1]
    by_cases h2 : y.stV s = 0
    · rw [if_pos h2, if_pos h2]; exact ⟨rfl, h.set 2⟩
    · rw [if_neg h2, if_neg h2]; exact ⟨rfl, h⟩
  · rw [if_neg h1, if_neg h1]; exact ⟨rfl, h⟩
theorem join_same (h : Agree s x y) (m : Int) : (x.joinF s m).1 = (y.joinF s m).1 ∧ Agree s (x.joinF s m).2 (y.joinF s m).2 := by
  unfold PS.joinF
  rw [h.st, h.other]
  by_cases h1 : numB s = true
  · rw [if_pos h1, if_pos h1]
    by_cases h3 : y.otherV m = true
    · rw [if_pos h3, if_pos h3]
      by_cases h2 : y.stV s = 0
      · rw [if_pos h2, if_pos h2]; exact ⟨rfl, (h.set 1).setPe _ _⟩
      · rw [if_neg h2, if_neg h2]; exact ⟨rfl, h⟩
    · rw [if_neg h3, if_neg h3]; exact ⟨rfl, h⟩
  · rw [if_neg h1, if_neg h1]; exact ⟨rfl, h⟩
theorem asked_same (h : Agree s x y) (m : Int) : (x.askedF s m).1 = (y.askedF s m).1 ∧ Agree s (x.askedF s m).2 (y.askedF s m).2 := by
  unfold PS.askedF
  rw [h.st, h.other, h.has]
  by_cases h1 : y.stV s = 2 ∧ y.otherV m = true ∧ y.hasV s m = false
  · rw [if_pos h1, if_pos h1]; exact ⟨rfl, h.setPe _ _⟩
  · rw [if_neg h1, if_neg h1]; exact ⟨rfl, h⟩
theorem leaving_same (h : Agree s x y) (m : Int) : (x.leavingF s m).1 = (y.leavingF s m).1 ∧ Agree s (x.leavingF s m).2 (y.leavingF s m).2 := by
  unfold PS.leavingF
  rw [h.st, h.has]
  by_cases h1 : y.stV s = 2 ∧ y.hasV s m = true
  · rw [if_pos h1, if_pos h1]; exact ⟨rfl, h.setPe _ _⟩
  · rw [if_neg h1, if_neg h1]; exact ⟨rfl, h⟩
theorem told_same (h : Agree s x y) (m a t : Int) : (x.toldF s m a t).1 = (y.toldF s m a t).1 ∧ Agree s (x.toldF s m a t).2 (y.toldF s m a t).2 := by
  unfold PS.toldF
  rw [h.st, h.has]
  by_cases h1 : y.stV s = a ∧ y.hasV s m = true
  · rw [if_pos h1, if_pos h1]; exact ⟨rfl, h.set _⟩
  · rw [if_neg h1, if_neg h1]; exact ⟨rfl, h⟩
theorem leave_same (h : Agree s x y) : (x.leaveF s).1 = (y.leaveF s).1 ∧ Agree s (x.leaveF s).2 (y.leaveF s).2 := by
  unfold PS.leaveF
  rw [h.st, h.of]
  by_cases h1 : numB s = true
  · rw [if_pos h1, if_pos h1]
    by_cases h2 : y.stV s = 0
    · rw [if_pos h2, if_pos h2]; exact ⟨rfl, h⟩
    · rw [if_neg h2, if_neg h2]
      by_cases h3 : y.stV s ≠ 2
      · rw [if_pos h3, if_pos h3]; exact ⟨rfl, h⟩
      · rw [if_neg h3, if_neg h3]
        split
        · exact ⟨rfl, h.set 3⟩
        · exact ⟨rfl, h⟩
  · rw [if_neg h1, if_neg h1]; exact ⟨rfl, h⟩
theorem do_same (o : Op4) (h : Agree o.s x y) : (x.doF o).1 = (y.doF o).1 ∧ Agree o.s (x.doF o).2 (y.doF o).2 := by
  unfold PS.doF
  by_cases h0 : o.k = 0
  · rw [if_pos h0, if_pos h0]; exact found_same h
  rw [if_neg h0, if_neg h0]
  by_cases h1 : o.k = 1
  · rw [if_pos h1, if_pos h1]; exact join_same h _
  rw [if_neg h1, if_neg h1]
  by_cases h2 : o.k = 2
  · rw [if_pos h2, if_pos h2]; have := asked_same h o.n; exact ⟨by dsimp only; rw [this.1], this.2⟩
  rw [if_neg h2, if_neg h2]
  by_cases h3 : o.k = 3
  · rw [if_pos h3, if_pos h3]; exact told_same h _ _ _
  rw [if_neg h3, if_neg h3]
  by_cases h4 : o.k = 4
  · rw [if_pos h4, if_pos h4]; have := leave_same h; exact ⟨by dsimp only; rw [this.1], this.2⟩
  rw [if_neg h4, if_neg h4]
  by_cases h5 : o.k = 5
  · rw [if_pos h5, if_pos h5]; have := leaving_same h o.n; exact ⟨by dsimp only; rw [this.1], this.2⟩
  rw [if_neg h5, if_neg h5]
  by_cases h6 : o.k = 6
  · rw [if_pos h6, if_pos h6]; exact told_same h _ _ _
  rw [if_neg h6, if_neg h6]
  exact ⟨rfl, h⟩
/-- What happens of another seller. -/
theorem do_other (o : Op4) (hs : o.s ≠ s) : Agree s (x.doF o).2 x := by
  have hF : Agree s (x.foundF o.s).2 x := by
    unfold PS.foundF
    split
    · rename_i hn
      split
      · exact agree_set hn hs 2
      · exact .refl _ _
    · exact .refl _ _
  have hJ : Agree s (x.joinF o.s o.n).2 x := by
    unfold PS.joinF
    split
    · rename_i hn
      split
      · split
        · exact (agree_setPe hn hs _ _).trans (agree_set hn hs _)
        · exact .refl _ _
      · exact .refl _ _
    · exact .refl _ _
  have hA : Agree s (x.askedF o.s o.n).2 x := by
    unfold PS.askedF
    split
    · rename_i h
      exact agree_setPe (st_num (by rw [h.1]; decide)) hs _ _
    · exact .refl _ _
  have hL : Agree s (x.leavingF o.s o.n).2 x := by
    unfold PS.leavingF
    split
    · rename_i h
      exact agree_setPe (st_num (by rw [h.1]; decide)) hs _ _
    · exact .refl _ _
  have hT : ∀ a t, Agree s (x.toldF o.s o.n a t).2 x := fun a t => by
    unfold PS.toldF
    split
    · rename_i h
      exact agree_set (has_num h.2).1 hs _
    · exact .refl _ _
  have hV : Agree s (x.leaveF o.s).2 x := by
    unfold PS.leaveF
    split
    · rename_i hn
      split
      · exact .refl _ _
      · split
        · exact .refl _ _
        · split
          · exact agree_set hn hs 3
          · exact .refl _ _
    · exact .refl _ _
  unfold PS.doF
  split
  · exact hF
  · split
    · exact hJ
    · split
      · exact hA
      · split
        · exact hT _ _
        · split
          · exact hV
          · split
            · exact hL
            · split
              · exact hT _ _
              · exact .refl _ _
end
end Pe
end Go.Proofs.Ytlceljcplmcjgaa

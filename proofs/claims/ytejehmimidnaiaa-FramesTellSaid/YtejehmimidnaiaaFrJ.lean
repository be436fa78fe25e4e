/-
frames: records that came in; records as the document's, compared.
-/
import Derived.Test.YtejehmimidnaiaaFrAl
import Derived.Test.YtejehmimidnaiaaOpenG
import Derived.Laws.StructEq
namespace Go.Proofs.Ytejehmimidnaiaa
open Go.RowKit Go.ChangeShapes Go.WideShapes Go.ChangeAt Go.WideElems
open Byt
set_option linter.unusedSimpArgs false
set_option linter.unusedVariables false

theorem own_knob : ownKnob Try.prog.godebug = none := by kernel_rfl
theorem laid_out : laidOutB Try.prog = true := by kernel_rfl
structure Rc.Ok (W : World) (x : Rc) : Prop where
  hc : x.bs.length ≤ x.c
  h256 : ∀ y ∈ x.bs, y < 256
  rd : ByR W x.A x.bs
  hA : x.A = none → x.bs = []
theorem Rc.Ok.next {W w : World} {x : Rc} (h : x.Ok W) (hb : Below W.heap.size W w) : x.Ok w := { h with rd := h.rd.next hb }
section
variable {H : Type} {enc : TypeId × Value → H} {w : World}
theorem cells_rc : Try.prog.cellsOf 24 = 2 := by kernel_rfl
theorem two_cells {cs : List Value} {a b : Value} (hl : cs.length = 2) (h0 : (cs.drop 0).take 1 = [a]) (h1 : (cs.drop 1).take 1 = [b]) : cs = [a, b] := by
  match cs, hl with
  | [x0, x1], _ =>
    simp only [List.drop_zero, List.drop_succ_cons, List.take_succ_cons, List.take_zero, List.cons.injEq, and_true] at h0 h1
    rw [h0, h1]
theorem cells_one : Try.prog.cellsOf 3 = 1 ∧ Try.prog.cellsOf 22 = 1 := ⟨by kernel_rfl, by kernel_rfl⟩
set_option maxRecDepth 100000 in
theorem open_rc {base fuel : Nat} {hd : Bool} {cs : List Value} {x : DataW H × List MemPlace} (h : DataW.trod enc Try.prog w base (fun _ => true) hd fuel 24 cs = some x) (hlt : ∀ y ∈ x.2, y.block < w.heap.size) :
    ∃ p : Rc, cs = p.cells ∧ p.Ok w := by
  obtain ⟨xs, m, _, hx, hcl, hlen, hg⟩ := DataW.trod_struct Try.underlying24 h
  rw [cells_rc] at hcl
  have g0 : DataW.trod enc Try.prog w base (fun _ => true) hd m 3 ((cs.drop 0).take (Try.prog.cellsOf 3)) = xs[0]? := hg 0 _ rfl
  have g1 : DataW.trod enc Try.prog w base (fun _ => true) hd m 22 ((cs.drop 1).take (Try.prog.cellsOf 22)) = xs[1]? := hg 1 _ rfl
  have hlen2 : xs.length = 2 := hlen
  clear hg hlen
  rw [cells_one.1] at g0
  rw [cells_one.2] at g1
  rw [List.getElem?_eq_getElem (by omega)] at g0 g1
  obtain ⟨k, e0, _, w0⟩ := DataW.trod_int Try.underlying3 g0
  obtain ⟨A, ml, c, bs, e1, hm, hc, hc2, hby, hcell, hA⟩ := open_bytes_cells g1 (fun y hy => hlt y (by rw [hx]; exact List.mem_flatMap.2 ⟨xs[1], List.getElem_mem (by omega), hy⟩)) (fun _ => rfl)
  subst hm
  exact ⟨⟨k, A, c, bs⟩, two_cells hcl e0 e1, ⟨hc, hby, hcell, hA⟩⟩
end
section
variable (W : World)
set_option maxRecDepth 20000 in
theorem as_any (k : Int) (A : Option Addr) (n c : Nat) (bs : List Nat) (hn : bs.length = n) (hs : Src W A n (u8s bs)) (h256 : ∀ x ∈ bs, x < 256) :
    Calls Try.prog 7 #[.agg #[.int .i64 k, .slice A n c]] W fun e W' => e = .returned (.agg #[.int .i64 k, .string (bstr bs)]) ∧ Below W.heap.size W W' := by
  have hb1 := (Below.refl W.heap.size W).alloc (Nat.le_refl _) (.cells #[.int .i64 k, .slice A n c] 24)
  have hb2 := (hb1.alloc hb1.size (.cells #[.int .i64 k, .string (bstr bs)] 27))
  have hX := (Blk.new (W.alloc (.cells #[.int .i64 k, .slice A n c] 24)) 27 #[.int .i64 k, .string (bstr bs)])
  rw [show (W.alloc (.cells #[.int .i64 k, .slice A n c] 24)).heap.size = W.heap.size + 1 by simp] at hX
  have k1 := conv_src ((W.alloc (.cells #[.int .i64 k, .slice A n c] 24)).alloc (.cells #[.int .i64 0, .string ⟨#[]⟩] 27)) A n c bs ((hs.below hb1).below ((Below.refl _ _).alloc (Nat.le_refl _) _)) hn h256
  have HB2 := Lib.hid hb2
  have HX := Lib.hid hX
  clear hs h256 hb1 hb2 hX
  go_enter Try.func7, Try.ntmps7
  go_wp2_with fail
  refine bodyPost_row (t := 27) #[.int .i64 k, .string (bstr bs)] rfl rfl rfl Try.underlying27 rfl (by kernel_rfl) HX.out ?_
  exact ⟨rfl, HB2.out⟩
theorem neq_same (w : World) (k : Int) (s : ByteArray) : (binOp .neq 27 (.agg #[.int .i64 k, .string s]) (.agg #[.int .i64 k, .string s])).run Try.prog w = .ok (.bool false) w := by
  rw [run_neq_struct]
  simp [go_sem]
end
theorem frames_256 : ∀ (m : List (Nat × List Nat)), (∀ y ∈ m, Fr.Fine y) → ∀ x ∈ Fr.frames m, x < 256 := by
  have h4 : ∀ s, ∀ x ∈ Fr.big4 s, x < 256 := by intro s x hx; unfold Fr.big4 at hx; simp at hx; omega
  intro m hm x hx
  unfold Fr.frames at hx
  obtain ⟨y, hy, hx⟩ := List.mem_flatMap.1 hx
  obtain ⟨f1, f2, f3, f4⟩ := hm y hy
  unfold Fr.frame at hx
  simp only [List.mem_append] at hx
  rcases hx with ((hx | hx) | hx) | hx
  · simp at hx; omega
  · exact f4 x hx
  · exact h4 _ x hx
  · simp at hx; omega
theorem w_add (p j q : Nat) (e : q = p + j) (h : p + j ≤ 100000) : wrap64 ((p : Int) + (j : Int)) = (q : Nat) := by unfold wrap64; omega
theorem w_addi (p j q : Nat) (e : q = p + j) (h : p + j ≤ 100000) : IntKind.i64.wrap ((p : Int) + (j : Int)) = (q : Nat) := by rw [IntKind.wrap_i64]; omega
theorem rng_next {w w' : World} {g o : Nat} {cs : List Value} (h : w.rangeAt g o cs) (hb : Below w.heap.size w w') : w'.rangeAt g o cs := fun j v hj => (hb.cell (p := ⟨g, o + j, none⟩) (World.block_lt_of_cell? _ _ (h j v hj))).trans (h j v hj)
theorem w_one (j q : Nat) (e : q = j + 1) (h : j ≤ 100000) : wrap64 ((j : Int) + 1) = (q : Nat) := by unfold wrap64; omega
theorem down_one (N j j1 : Nat) (x : Int) (e : x = (j1 : Nat)) (h : j1 = j + 1) (hl : j < N) : N - (intOf (.int .i64 x)).toNat < N - (intOf (.int .i64 (j : Nat))).toNat := by
  subst e
  simp only [intOf, Int.toNat_natCast]
  omega
theorem recs_len1 {W : World} {l : List Rc} {m : List (Nat × List Nat)} (h : Recs W l m) : l.length = m.length := by
  have := congrArg List.length h.1
  simpa using this
theorem recs_len {W W' : World} {l1 l2 : List Rc} {q rl : List (Nat × List Nat)} (h1 : Recs W l1 (q ++ rl)) (h2 : Recs W' l2 rl) : l1.length = q.length + l2.length := by
  rw [recs_len1 h1, recs_len1 h2, List.length_append]
theorem recs_same {W W' : World} {l1 l2 : List Rc} {q rl : List (Nat × List Nat)} (h1 : Recs W l1 (q ++ rl)) (h2 : Recs W' l2 rl) {j : Nat} (hj : j < l2.length) : ∃ x1 x2, l1[q.length + j]? = some x1 ∧ l2[j]? = some x2 ∧ x1.k = x2.k ∧ x1.bs = x2.bs := by
  have hl := recs_len h1 h2
  have e1 := congrArg (fun l => l[q.length + j]?) h1.1
  have e2 := congrArg (fun l => l[j]?) h2.1
  simp only [List.getElem?_map] at e1 e2
  rw [List.getElem?_append_right (by omega), Nat.add_sub_cancel_left, ← e2] at e1
  rw [List.getElem?_eq_getElem (by omega), List.getElem?_eq_getElem hj] at e1
  simp only [Option.map_some, Option.some.injEq, Prod.mk.injEq] at e1
  exact ⟨_, _, List.getElem?_eq_getElem (by omega), List.getElem?_eq_getElem hj, e1.1, e1.2⟩
theorem recs_mem {W : World} {l : List Rc} {m : List (Nat × List Nat)} (h : Recs W l m) {i : Nat} {x : Rc} (hx : l[i]? = some x) : ByT W x.A x.bs ∧ (x.A = none → x.bs = []) := (h.2 x (List.mem_of_getElem? hx)).2
theorem recs_256 {W : World} {l : List Rc} {m : List (Nat × List Nat)} (h : Recs W l m) {i : Nat} {x : Rc} {bs : List Nat} (hx : l[i]? = some x) (hb : bs = x.bs) (h256 : ∀ y ∈ m, ∀ z ∈ y.2, z < 256) : ∀ z ∈ bs, z < 256 := by
  subst hb
  have hm : (x.k, x.bs) ∈ l.map (fun x => (x.k, x.bs)) := List.mem_map.2 ⟨x, List.mem_of_getElem? hx, rfl⟩
  rw [h.1] at hm
  obtain ⟨y, hy, e⟩ := List.mem_map.1 hm
  simp only [Prod.mk.injEq] at e
  rw [← e.2]
  exact h256 y hy
theorem rec_src {W : World} {B n c : Nat} {A : Option Addr} {l : List Rc} {i : Nat} {x : Rc} (h : W.ownsRow B 24 2 (.slice A n c) l.length (rcs l)) (hx : l[i]? = some x) : ∃ g, A = some ⟨g, 0, none⟩ ∧ W.rangeAt g (i * 2) x.cells := by
  have h0 : l.length ≠ 0 := by
    intro e
    rw [List.length_eq_zero_iff.1 e] at hx
    cases hx
  obtain ⟨g, c', e, q0, q1⟩ := rec_row h h0
  simp only [Value.slice.injEq] at e
  refine ⟨g, e.1, fun j v hj => ?_⟩
  match j, hj with
  | 0, hj =>
    cases hj
    have := q0 i x hx
    rwa [Nat.mul_comm] at this
  | 1, hj =>
    cases hj
    have := q1 i x hx
    rwa [Nat.mul_comm] at this
  | j + 2, hj => cases hj
end Go.Proofs.Ytejehmimidnaiaa

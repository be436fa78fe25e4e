/-
frames: ends and records beside the frames, for FramesTorn.
-/
import Derived.Test.YtejehmimidnaiaaFrJoin
import Derived.Test.YtejehmimidnaiaaFrTM
import Derived.Test.YtejehmimidnaiaaAppZ
namespace Go.Proofs.Ytejehmimidnaiaa
open Go.RowKit Go.ChangeShapes Go.WideShapes Go.ChangeAt Go.WideElems
open Byt
set_option linter.unusedSimpArgs false
set_option linter.unusedVariables false

def ints (l : List Nat) : List Value := l.map fun (x : Nat) => Value.int .i64 (x : Int)
theorem ints_len (l : List Nat) : (ints l).length = l.length := by simp [ints]
theorem ints_one (l : List Nat) : ∀ u ∈ ints l, u.oneCell' = true := by
  intro u hu
  obtain ⟨x, _, rfl⟩ := List.mem_map.1 hu
  rfl
def endsOf (q : List (Nat × List Nat)) : List Nat := (List.range q.length).map (Fr.endAt q)
theorem ends_len (q : List (Nat × List Nat)) : (endsOf q).length = q.length := by simp [endsOf]
theorem ends_snoc (q : List (Nat × List Nat)) (y : Nat × List Nat) : endsOf (q ++ [y]) = endsOf q ++ [(Fr.frames (q ++ [y])).length] := by
  unfold endsOf
  rw [List.length_append, List.length_singleton, List.range_succ, List.map_append]
  congr 1
  · apply List.map_congr_left
    intro i hi
    have hi := List.mem_range.1 hi
    unfold Fr.endAt
    rw [List.take_append_of_le_length (by omega)]
  · simp [Fr.endAt, List.take_of_length_le]
theorem ends_get (q : List (Nat × List Nat)) (i : Nat) (hi : i < q.length) : (endsOf q)[i]? = some (Fr.endAt q i) := by
  unfold endsOf
  rw [List.getElem?_map, List.getElem?_range hi]; rfl
/-- A row stays where one of another type grows. -/
theorem own_kept {w w' : World} {B B2 n m s s2 : Nat} {e e2 : TypeId} {v u : Value} {xs ys : List Value} (h : w.ownsRow B e s v n xs) (hg : w.grownBy w' u.ownBlock) (hu : w.ownsRow B2 e2 s2 u m ys) (he : e ≠ e2) : w'.ownsRow B e s v n xs := by
  refine h.kept hg ?_
  obtain ⟨_, ⟨rfl, _⟩ | ⟨g, cap, cur, rfl, _, hh, _⟩⟩ := h
  · exact Or.inl rfl
  · right
    obtain ⟨_, ⟨rfl, _⟩ | ⟨g2, cap2, cur2, rfl, _, hh2, _⟩⟩ := hu
    · simp [Value.ownBlock]
    · intro e0
      simp only [Value.ownBlock, Option.some.injEq] at e0
      subst e0
      rw [hh] at hh2
      simp only [Option.some.injEq, Obj.cells.injEq] at hh2
      exact he hh2.2.1
theorem blk_kept {w w' : World} {B n s g : Nat} {e t : TypeId} {u : Value} {ys : List Value} {cs : Array Value} (h : Blk w g t cs) (hg : w.grownBy w' u.ownBlock) (hu : w.ownsRow B e s u n ys) (ht : t ≠ e) : Blk w' g t cs := (hg.block g h.lt (own_ne hu h ht)).trans h
theorem blk_src {w : World} {g n : Nat} {t : TypeId} {cs : Array Value} (h : Blk w g t cs) : Src w (some ⟨g, 0, none⟩) n cs.toList :=
  Or.inl ⟨_, rfl, fun j u hj => by rw [Byt.add_plain, Nat.zero_add, h.cell]; simpa using hj⟩
def TInv (W : World) (l : List Rc) (av ev tv : Value) (q : List (Nat × List Nat)) (tl : List Rc) (k : Nat) (w : World) : Prop :=
  JInv W av q k w ∧ w.ownsRow W.heap.size 3 1 ev q.length (ints (endsOf q)) ∧ w.ownsRow W.heap.size 24 2 tv tl.length (rcs tl) ∧ tl.map (fun x => (x.k, x.bs)) = q.map (fun y => ((y.1 : Int), y.2)) ∧ ∀ x ∈ tl, x ∈ l
theorem TInv.next {W w w' : World} {l : List Rc} {av ev tv : Value} {q : List (Nat × List Nat)} {tl : List Rc} {k : Nat} (h : TInv W l av ev tv q tl k w) (hb : Below w.heap.size w w') : TInv W l av ev tv q tl k w' := ⟨h.1.next hb, ownG_next h.2.1 hb, ownG_next h.2.2.1 hb, h.2.2.2⟩
theorem TInv.more {W w : World} {l : List Rc} {av ev tv : Value} {q : List (Nat × List Nat)} {tl : List Rc} {k k' : Nat} (h : TInv W l av ev tv q tl k w) (hk : k ≤ k') : TInv W l av ev tv q tl k' w := ⟨h.1.more hk, h.2⟩
theorem torn_round {W w3 w : World} {l tl : List Rc} {av ev tv vA vE vT : Value} {q : List (Nat × List Nat)} {k z N4 P T : Nat} {x : Rc} {fs4 : List Nat} (h : TInv W l av ev tv q tl k w3) (hF : Fr.Fine (z, x.bs)) (hz : x.k = (z : Nat)) (hx : x ∈ l) (h5 : x.bs.length ≤ 500)
    (hfs : fs4 = Fr.frames (q ++ [(z, x.bs)])) (hN : fs4.length = N4) (hP : P = q.length) (hT : T = tl.length)
    (RA : w.ownsRow W.heap.size 5 1 vA N4 (u8s fs4)) (RE : w.ownsRow W.heap.size 3 1 vE (P + 1) (ints (endsOf q) ++ [.int .i64 (N4 : Nat)])) (RT : w.ownsRow W.heap.size 24 2 vT (T + 1) (rcs tl ++ x.cells)) (RB : Below W.heap.size W w) :
    TInv W l vA vE vT (q ++ [(z, x.bs)]) (tl ++ [x]) (k + 1) w := by
  obtain ⟨⟨j1, j2, j3, j4, j5⟩, j6, j7, j8, j9⟩ := h
  subst hN hP hT hfs
  refine ⟨⟨RA, ?_, ?_, ?_, RB⟩, ?_, ?_, ?_, ?_⟩
  · intro y' hy'
    rcases List.mem_append.1 hy' with h | h
    · exact j2 y' h
    · simp only [List.mem_singleton] at h
      subst h
      exact hF
  · rw [List.length_append, List.length_singleton]; omega
  · rw [frames_snoc, List.length_append, Fr.frame_len]; omega
  · rw [List.length_append, List.length_singleton, ends_snoc]
    have : ints (endsOf q ++ [(Fr.frames (q ++ [(z, x.bs)])).length]) = ints (endsOf q) ++ [.int .i64 ((Fr.frames (q ++ [(z, x.bs)])).length : Nat)] := by simp [ints]
    rw [this]
    exact RE
  · rw [List.length_append, List.length_singleton]
    have : rcs (tl ++ [x]) = rcs tl ++ x.cells := by simp [rcs]
    rw [this]
    exact RT
  · rw [List.map_append, List.map_append, j8, List.map_singleton, List.map_singleton, hz]
  · intro y hy
    rcases List.mem_append.1 hy with h | h
    · exact j9 y h
    · simp only [List.mem_singleton] at h
      subst h
      exact hx
theorem recs_told {W : World} {l1 tl : List Rc} {q : List (Nat × List Nat)} {wh i : Nat} (h : Recs W l1 (q.take wh)) (ht : tl.map (fun x => (x.k, x.bs)) = q.map (fun y => ((y.1 : Int), y.2))) (hw : wh ≤ q.length) (hi : i < wh) : ∃ x1 x2, l1[i]? = some x1 ∧ tl[i]? = some x2 ∧ x1.k = x2.k ∧ x1.bs = x2.bs := by
  have hl := recs_len1 h
  rw [List.length_take, Nat.min_eq_left hw] at hl
  have hl2 := congrArg List.length ht
  simp only [List.length_map] at hl2
  have e1 := congrArg (fun l => l[i]?) h.1
  have e2 := congrArg (fun l => l[i]?) ht
  simp only [List.getElem?_map, List.getElem?_take, if_pos hi] at e1 e2
  rw [← e2, List.getElem?_eq_getElem (by omega), List.getElem?_eq_getElem (by omega)] at e1
  simp only [Option.map_some, Option.some.injEq, Prod.mk.injEq] at e1
  exact ⟨_, _, List.getElem?_eq_getElem (by omega), List.getElem?_eq_getElem (by omega), e1.1, e1.2⟩
theorem w_zero (N La bh Z : Nat) (h : La ≤ N) (hN : N ≤ 100000) (hb : bh < 256) (hZ : Z = N - La + bh) : wrap64 (wrap64 ((N : Int) - (La : Int)) + wrap64 (bh : Int)) = (Z : Nat) := by
  have h1 : wrap64 ((N : Int) - (La : Int)) = ((N - La : Nat) : Int) := by unfold wrap64; omega
  have h2 : wrap64 (bh : Int) = (bh : Int) := by clear h1; unfold wrap64; omega
  rw [h1, h2]
  clear h1 h2
  unfold wrap64
  omega
theorem int_cell {W : World} {B n c : Nat} {A : Option Addr} {xs : List Nat} {i x : Nat} (h : W.ownsRow B 3 1 (.slice A n c) n (ints xs)) (hx : xs[i]? = some x) : ∃ g, A = some ⟨g, 0, none⟩ ∧ W.cell? ⟨g, i, none⟩ = some (.int .i64 (x : Nat)) := by
  have h1 := h
  obtain ⟨hl, ⟨e, hz⟩ | ⟨g, cap, cur, e, hg, hh, hnc, r⟩⟩ := h
  · rw [hz] at hl
    have := (List.getElem?_eq_some_iff.1 hx).1
    rw [ints_len] at hl
    omega
  · simp only [Value.slice.injEq] at e
    obtain ⟨rfl, -, rfl⟩ := e
    refine ⟨g, rfl, ?_⟩
    have := h1.cells rfl i (.int .i64 (x : Nat)) (by unfold ints; rw [List.getElem?_map, hx]; rfl)
    rwa [Byt.add_plain, Nat.zero_add] at this
theorem own_some {W : World} {B n : Nat} {v : Value} {xs : List Value} (h : W.ownsRow B 5 1 v n xs) (h0 : v.ownBlock ≠ none) : ∃ g c, v = .slice (some ⟨g, 0, none⟩) n c := by
  obtain ⟨_, ⟨rfl, _⟩ | ⟨g, cap, cur, rfl, _⟩⟩ := h
  · exact absurd rfl h0
  · exact ⟨g, cap, rfl⟩
theorem info_int : ∃ i z, Try.prog.info? 3 = some i ∧ i.zero = some z ∧ i.size = 1 ∧ i.bytes = 8 ∧ z.cells.size = 1 := by
  have h : ((Try.prog.info? 3).bind fun i => i.zero.map fun z => (i.size, i.bytes, z.cells.size)) = some (1, 8, 1) := by kernel_rfl
  cases hi : Try.prog.info? 3 with
  | none => rw [hi] at h; cases h
  | some i =>
    rw [hi] at h
    simp only [Option.bind_some, Option.map_eq_some_iff, Prod.mk.injEq] at h
    obtain ⟨z, hz, h1, h2, h3⟩ := h
    exact ⟨i, z, rfl, hz, h1, h2, h3⟩
theorem info_u8z : ∃ i z, Try.prog.info? 5 = some i ∧ i.zero = some z ∧ i.size = 1 ∧ i.bytes = 1 ∧ z.cells = #[.int .u8 0] := by
  have h : ((Try.prog.info? 5).bind fun i => i.zero.map fun z => (i.size, i.bytes, z.cells)) = some (1, 1, #[.int .u8 0]) := by kernel_rfl
  cases hi : Try.prog.info? 5 with
  | none => rw [hi] at h; cases h
  | some i =>
    rw [hi] at h
    simp only [Option.bind_some, Option.map_eq_some_iff, Prod.mk.injEq] at h
    obtain ⟨z, hz, h1, h2, h3⟩ := h
    exact ⟨i, z, rfl, hz, h1, h2, h3⟩
/-- An append of so many noughts. -/
theorem wpList_append_zeros {ops : Array Oper} {rest : List Oper} {o : Oper} {a : Act} {Q : Exit → Act → World → Prop} (w : World) (hgd : o.guard = none) (s x : Operand)
    (ho : o.op = .call { callee := .builtin .append, args := #[s, x], argTypes := #[22, 3] }) (base g n cap : Nat) (bs : List Nat) (hs : a.eval s = .slice (some ⟨g, 0, none⟩) n cap)
    (hown : w.ownsRow base 5 1 (.slice (some ⟨g, 0, none⟩) n cap) n (u8s bs)) (m : Nat) (hx : a.eval x = .int .i64 (m : Int)) (hbytes : n + m ≤ 140737488355328) (hbase : base ≤ w.heap.size)
    (h : ∀ v' w', w'.ownsRow base 5 1 v' (n + m) (u8s (bs ++ List.replicate m 0)) → w.grownBy w' (some g) → wpList Try.prog ops Q rest (a.put o.dst v') w') : wpList Try.prog ops Q (o :: rest) a w := by
  obtain ⟨i, z, hi, hz, h1, h2, h3⟩ := info_u8z
  obtain ⟨v', w', hr, hown', hgrow, _⟩ := run_append_zeros (P := Try.prog) w base 22 3 o.type 5 i z Try.underlying22 Try.underlying3 hi hz h3 h1 h2 g n cap (u8s bs) hown m hbytes hbase
  refine wpList_plain hgd fun _ hK => ?_
  unfold Oper.wp
  simp [execOp, ho, resolve, invoke, builtin, hs, hx, hr, Result.andThen]
  refine hK _ _ (h v' w' ?_ hgrow)
  rw [u8s_app, show u8s (List.replicate m 0) = List.replicate m (.int .u8 0) by simp [u8s]]
  exact hown'
end Go.Proofs.Ytejehmimidnaiaa

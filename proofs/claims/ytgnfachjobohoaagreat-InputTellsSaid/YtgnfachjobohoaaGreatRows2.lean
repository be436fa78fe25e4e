/-
Rows that a call made, of whatever type: what keeps them, what they are appended by. It speaks of any program.
What a call on an object with blocks of its own leaves as it was; what lies beside them; a store into the middle of a block. It speaks of any program.
-/
import Derived.Test.YtgnfachjobohoaaGreatAppend
import Derived.Test.YtgnfachjobohoaaGreatVec
import Derived.Deep.MidRow
namespace Go.Proofs.YtgnfachjobohoaaGreat
open Go.RowKit
section
variable {P : Program} {w w' : World} {B : Nat} {e : TypeId} {size n : Nat} {v : Value} {xs : List Value}
theorem ownG_next (h : w.ownsRow B e size v n xs) (hb : Below w.heap.size w w') : w'.ownsRow B e size v n xs := by
  obtain ⟨hl, h⟩ := h
  refine ⟨hl, h.imp id ?_⟩
  rintro ⟨g, cap, cur, e, hg, hh, r⟩
  refine ⟨g, cap, cur, e, hg, (hb.block g ?_).trans hh, r⟩
  rcases Nat.lt_or_ge g w.heap.size with h1 | h1
  · exact h1
  · rw [Array.getElem?_eq_none h1] at hh; cases hh
theorem ownG_le {B' : Nat} (h : w.ownsRow B e size v n xs) (hB : B' ≤ B) : w.ownsRow B' e size v n xs := by
  obtain ⟨hl, h⟩ := h
  refine ⟨hl, h.imp id ?_⟩
  rintro ⟨g, cap, cur, e, hg, r⟩
  exact ⟨g, cap, cur, e, Nat.le_trans hB hg, r⟩
theorem ownG_slice (h : w.ownsRow B e size v n xs) : ∃ A c, v = .slice A n c ∧ n ≤ c ∧ Src w A n xs ∧ (∀ a, A = some a → ∃ g, a = ⟨g, 0, none⟩ ∧ B ≤ g ∧ g < w.heap.size ∧ v.ownBlock = some g) := by
  have h0 := h
  obtain ⟨hl, ⟨rfl, rfl⟩ | ⟨g, cap, cur, rfl, hg, hh, hnc, _⟩⟩ := h
  · refine ⟨none, 0, rfl, Nat.le_refl _, Or.inr ⟨rfl, rfl, ?_⟩, fun a ha => by cases ha⟩
    exact List.eq_nil_of_length_eq_zero (by simpa using hl)
  · refine ⟨some ⟨g, 0, none⟩, cap, rfl, hnc, Or.inl ⟨_, rfl, @World.ownsRow.cells w B e size _ n xs h0 g rfl⟩, fun a ha => ?_⟩
    cases ha
    exact ⟨g, rfl, hg, (h0.lt g rfl).2, rfl⟩
theorem ownG_below {row : Value} {C : Nat} {w0 : World} (hg : w.grownBy w' row.ownBlock) (hr : w.ownsRow B e size row n xs) (hB : C ≤ B) (hC : C ≤ w.heap.size) (hb : Below C w0 w) : Below C w0 w' :=
  hb.grown hg hC (fun b hb => by have := (hr.lt b hb).1; omega)
theorem ownG_empty (w : World) (e : TypeId) (size : Nat) : (w.alloc (.cells #[] e)).ownsRow w.heap.size e size (.slice (some ⟨w.heap.size, 0, none⟩) 0 0) 0 [] :=
  World.ownsRow_made w #[] 0 (Nat.le_refl _) (by decide) (by simp)
/-- Two rows lie in two blocks. -/
def Apart2 (v u : Value) : Prop := ∀ b, v.ownBlock = some b → u.ownBlock ≠ some b
theorem Apart2.symm {v u : Value} (h : Apart2 v u) : Apart2 u v := fun b hu hv => h b hv hu
theorem Apart2.ne {v u : Value} (h : Apart2 v u) : v.ownBlock = none ∨ v.ownBlock ≠ u.ownBlock := by
  cases hv : v.ownBlock with
  | none => exact Or.inl rfl
  | some b => exact Or.inr fun e => h b hv e.symm
/-- A row that was appended to lies apart from what the old one lay apart of. -/
theorem Apart2.grown {v v' u : Value} {m B2 : Nat} {e2 : TypeId} {s2 : Nat} {ys : List Value} (h : Apart2 v u) (hw : v'.ownBlock = v.ownBlock ∨ v'.ownBlock = some w.heap.size) (hu : w.ownsRow B2 e2 s2 u m ys) : Apart2 v' u := by
  intro b hb hub
  rcases hw with e | e
  · exact h b (e ▸ hb) hub
  · rw [e] at hb
    cases hb
    have := (hu.lt _ hub).2
    omega
theorem wpList_append_g {ops : Array Oper} {rest : List Oper} {o : Oper} {a : Act} {Q : Exit → Act → World → Prop} (hw : Region.wanted o (yielded ops a.tmps) = true) (s x : Operand) (t : TypeId)
    (ho : o.op = .call { callee := .builtin .append, args := #[s, x], argTypes := #[t, t] })
    (base : Nat) (e : TypeId) (i : TypeInfo) (z : Value) (ht : P.underlying t = some (.slice e)) (hi : P.info? e = some i) (hz : i.zero = some z) (hzs : z.cells.size = i.size) (hsz : 0 < i.size)
    (v : Value) (n : Nat) (xs : List Value) (hs : a.eval s = v) (hown : w.ownsRow base e i.size v n xs)
    (A : Option Addr) (m c : Nat) (news : List Value) (hx : a.eval x = .slice A m c) (hl : news.length = m * i.size) (hsrc : Src w A m news) (h1 : ∀ u ∈ news, u.oneCell' = true)
    (h63 : n + m ≤ maxLen) (hbytes : (n + m) * i.bytes ≤ 140737488355328) (hbase : base ≤ w.heap.size)
    (h : ∀ v' w', w'.ownsRow base e i.size v' (n + m) (xs ++ news) → w.grownBy w' v.ownBlock → (v'.ownBlock = v.ownBlock ∨ v'.ownBlock = some w.heap.size) → wpList P ops Q rest (a.put o.dst v') w') : wpList P ops Q (o :: rest) a w :=
  wpList_step fun _ hK => by
    rw [if_pos hw]
    exact wp_append_src w s x t ho base e i z ht hi hz hzs hsz v n xs hs hown A m c news hx hl hsrc h1 h63 hbytes hbase fun v' w' h2 h3 h4 => hK _ _ (h v' w' h2 h3 h4)
theorem step_append_g {ops : Array Oper} {o : Oper} {a : Act} {K : Act → World → Prop} {Q : Exit → Act → World → Prop} {E : Prop} (hw : Region.wanted o (yielded ops a.tmps) = true) (s x : Operand) (t : TypeId)
    (ho : o.op = .call { callee := .builtin .append, args := #[s, x], argTypes := #[t, t] })
    (base : Nat) (e : TypeId) (i : TypeInfo) (z : Value) (ht : P.underlying t = some (.slice e)) (hi : P.info? e = some i) (hz : i.zero = some z) (hzs : z.cells.size = i.size) (hsz : 0 < i.size)
    (v : Value) (n : Nat) (xs : List Value) (hs : a.eval s = v) (hown : w.ownsRow base e i.size v n xs)
    (A : Option Addr) (m c : Nat) (news : List Value) (hx : a.eval x = .slice A m c) (hl : news.length = m * i.size) (hsrc : Src w A m news) (h1 : ∀ u ∈ news, u.oneCell' = true)
    (h63 : n + m ≤ maxLen) (hbytes : (n + m) * i.bytes ≤ 140737488355328) (hbase : base ≤ w.heap.size)
    (h : ∀ v' w', w'.ownsRow base e i.size v' (n + m) (xs ++ news) → w.grownBy w' v.ownBlock → (v'.ownBlock = v.ownBlock ∨ v'.ownBlock = some w.heap.size) → K (a.put o.dst v') w') : if Region.wanted o (yielded ops a.tmps) = true then Oper.wp P o a w K Q else E := by
  rw [if_pos hw]
  exact wp_append_src w s x t ho base e i z ht hi hz hzs hsz v n xs hs hown A m c news hx hl hsrc h1 h63 hbytes hbase h
end
end Go.Proofs.YtgnfachjobohoaaGreat
namespace Go.Proofs.YtgnfachjobohoaaGreat
open Go.RowKit
set_option linter.unusedVariables false
/-- What a call on an object leaves as it was. -/
def Turn (B : Nat) (F : Nat → Prop) (W W' : World) : Prop := Below B W W' ∧ ∀ k, k < W.heap.size → ¬ F k → W'.heap[k]? = W.heap[k]?
/-- Its blocks behind a call. -/
def Grow (F : Nat → Prop) (W W' : World) : Nat → Prop := fun k => F k ∨ (W.heap.size ≤ k ∧ k < W'.heap.size)
theorem ownG_keep {w w' : World} {B : Nat} {e : TypeId} {size n : Nat} {v : Value} {xs : List Value} (h : w.ownsRow B e size v n xs) (hk : ∀ k, v.ownBlock = some k → w'.heap[k]? = w.heap[k]?) : w'.ownsRow B e size v n xs := by
  obtain ⟨hl, h⟩ := h
  refine ⟨hl, h.imp id ?_⟩
  rintro ⟨g, cap, cur, e, hg, hh, r⟩
  exact ⟨g, cap, cur, e, hg, (hk g (by rw [e]; rfl)).trans hh, r⟩
theorem own_ne {W : World} {B n g size : Nat} {e t : TypeId} {v : Value} {xs : List Value} {cs : Array Value} (h : W.ownsRow B e size v n xs) (hg : Blk W g t cs) (ht : t ≠ e) : some g ≠ v.ownBlock := by
  obtain ⟨_, ⟨rfl, rfl⟩ | ⟨k, cap, cur, rfl, _, hk, _⟩⟩ := h
  · simp [Value.ownBlock]
  · intro e
    simp only [Value.ownBlock, Option.some.injEq] at e
    subst e
    unfold Blk at hg
    rw [hk] at hg
    simp only [Option.some.injEq, Obj.cells.injEq] at hg
    exact ht hg.2.1.symm
def Prot (P F : Nat → Prop) (W : World) : Prop := ∀ k, P k → k < W.heap.size ∧ ¬ F k
def Kept (P : Nat → Prop) (W W' : World) : Prop := ∀ k, P k → W'.heap[k]? = W.heap[k]?
theorem Turn.kept {B : Nat} {F P : Nat → Prop} {W W' : World} (t : Turn B F W W') (h : Prot P F W) : Kept P W W' := fun k hk => t.2 k (h k hk).1 (h k hk).2
theorem Turn.prot {B : Nat} {F P : Nat → Prop} {W W' : World} (t : Turn B F W W') (h : Prot P F W) : Prot P (Grow F W W') W' := fun k hk =>
  ⟨Nat.lt_of_lt_of_le (h k hk).1 t.1.size, by
    rintro (h1 | ⟨h1, _⟩)
    · exact (h k hk).2 h1
    · exact absurd (h k hk).1 (by omega)⟩
theorem Prot.next {F P : Nat → Prop} {W W' : World} (h : Prot P F W) (hb : Below W.heap.size W W') : Prot P F W' := fun k hk => ⟨Nat.lt_of_lt_of_le (h k hk).1 hb.size, (h k hk).2⟩
theorem Prot.size {P F : Nat → Prop} {W W' : World} (h : Prot P F W) (hs : W.heap.size ≤ W'.heap.size) : Prot P F W' := fun k hk => ⟨Nat.lt_of_lt_of_le (h k hk).1 hs, (h k hk).2⟩
theorem Prot.add {F P : Nat → Prop} {W W' : World} {g : Nat} (h : Prot P F W) (hF : ∀ k, F k → k < W.heap.size) (hb : Below W.heap.size W W') (hg : W.heap.size ≤ g ∧ g < W'.heap.size) : Prot (fun k => P k ∨ k = g) F W' := fun k hk => by
  rcases hk with hk | rfl
  · exact h.next hb k hk
  · exact ⟨hg.2, fun hF' => absurd (hF _ hF') (by omega)⟩
theorem Prot.none (F : Nat → Prop) (W : World) : Prot (fun _ => False) F W := fun _ h => h.elim
theorem apart_grow {W W' : World} {F G : Nat → Prop} (h : ∀ k, F k → ¬ G k) (hG : ∀ k, G k → k < W.heap.size) : ∀ k, Grow F W W' k → ¬ G k := by
  rintro k (hk | ⟨h1, _⟩) hg
  · exact h k hk hg
  · have := hG k hg; omega
theorem apart_symm {F G : Nat → Prop} (h : ∀ k, F k → ¬ G k) : ∀ k, G k → ¬ F k := fun k hg hf => h k hf hg
namespace Wr
/-- A block that is laid and filled at once. -/
theorem alloc_setRow (w : World) (t : TypeId) (z cs : Array Value) : (w.alloc (.cells z t)).setRow w.heap.size cs = w.alloc (.cells cs t) := by
  have h : ∀ (a : Array Obj) (o : Obj) (f : Obj → Obj), (a.push o).modify a.size f = a.push (f o) := by
    intro a o f
    apply Array.ext_getElem?
    intro i
    rw [Array.getElem?_modify, Array.getElem?_push, Array.getElem?_push]
    by_cases hi : a.size = i
    · subst hi; simp
    · rw [if_neg hi, if_neg (Ne.symm hi), if_neg (Ne.symm hi)]
  unfold World.setRow World.alloc
  rw [h]
end Wr
theorem setCells_other (g : Nat) : ∀ (vs : List Value) (o : Nat) (w : World) (k : Nat), k ≠ g → (w.setCells g o vs).heap[k]? = w.heap[k]?
  | [], _, _, _, _ => rfl
  | v :: r, o, w, k, h => (setCells_other g r (o + 1) (w.setCell ⟨g, o, none⟩ v) k h).trans (Below.heap_setCell w ⟨g, o, none⟩ v k h)
theorem setCells_below {B g : Nat} {a : World} (hB : B ≤ g) : ∀ (vs : List Value) (o : Nat) (w : World), Below B a w → Below B a (w.setCells g o vs)
  | [], _, _, h => h
  | v :: r, o, w, h => setCells_below hB r (o + 1) _ (h.setCell (p := ⟨g, o, none⟩) hB v)
theorem setCells_size (g : Nat) : ∀ (vs : List Value) (o : Nat) (w : World), (w.setCells g o vs).heap.size = w.heap.size
  | [], _, _ => rfl
  | v :: r, o, w => (setCells_size g r (o + 1) _).trans (by simp [World.setCell])
/-- A store into the middle of a block. -/
theorem Blk.setMid {g : Nat} {t : TypeId} : ∀ (vs : List Value) (p o q : List Value) (w : World), Blk w g t (p ++ o ++ q).toArray → vs.length = o.length → Blk (w.setCells g p.length vs) g t (p ++ vs ++ q).toArray
  | [], p, o, q, w, h, hl => by
    have : o = [] := List.length_eq_zero_iff.1 hl.symm
    subst this
    exact h
  | v :: r, p, o, q, w, h, hl => by
    cases o with
    | nil => simp at hl
    | cons u o =>
      have h1 := h.setCell p.length v
      have e : (p ++ (u :: o) ++ q).toArray.setIfInBounds p.length v = ((p ++ [v]) ++ o ++ q).toArray := by simp
      rw [e] at h1
      have h2 := Blk.setMid r (p ++ [v]) o q _ h1 (by simpa using hl)
      have e2 : (p ++ [v]).length = p.length + 1 := by simp
      rw [e2] at h2
      have e3 : p ++ [v] ++ r ++ q = p ++ (v :: r) ++ q := by simp
      rw [e3] at h2
      exact h2
theorem Blk.thereT {w : World} {g o n : Nat} {t : TypeId} {cs : Array Value} (h : Blk w g t cs) (hn : o + n ≤ cs.size) : w.there g o n := fun j hj =>
  ⟨by rw [h.cell, Array.getElem?_eq_getElem (by omega)]; rfl, h.frozen _⟩
theorem Blk.mid {w : World} {g : Nat} {t : TypeId} {p o q : List Value} (h : Blk w g t (p ++ o ++ q).toArray) : w.rangeAt g p.length o := fun j v hv => by
  have hj := (List.getElem?_eq_some_iff.1 hv).1
  rw [h.cell, List.getElem?_toArray, List.append_assoc, List.getElem?_append_right (by omega), Nat.add_sub_cancel_left, List.getElem?_append_left hj, hv]
end Go.Proofs.YtgnfachjobohoaaGreat

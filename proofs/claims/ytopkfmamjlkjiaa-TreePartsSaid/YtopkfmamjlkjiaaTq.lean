/-
tree: Get, its reader (mathematics), and what it keeps in memory.
-/
import Derived.Test.YtopkfmamjlkjiaaTp
import Derived.Test.YtopkfmamjlkjiaaBack
namespace Go.Proofs.Ytopkfmamjlkjiaa
open Go.RowKit
set_option linter.unusedSimpArgs false
set_option linter.unusedVariables false
namespace Tr
def kU (k : Nat → Int) (j n : Nat) : Nat → Int := fun i => if i = j then ((n : Nat) : Int) else k i
def kA (k : Nat → Int) (j : Nat) : Nat → List Nat → Except Int ((Nat → Int) × List Nat)
  | 0, bs => .ok (k, bs)
  | m + 1, bs => match smallP 3 bs with
    | .ok (v, t) => kA (kU k j v) (j + 1) m t
    | .error x => .error x
def eA (es : List (Int × Int)) : Nat → List Nat → Except Int (List (Int × Int) × List Nat)
  | 0, bs => .ok (es, bs)
  | m + 1, bs => match smallP 12 bs with
    | .ok (a, t) => match smallP 12 t with
      | .ok (b, u) => eA (es ++ [(((a : Nat) : Int), ((b : Nat) : Int))]) m u
      | .error x => .error x
    | .error x => .error x
def getP (bs : List Nat) : Except Int (((Nat → Int) × List (Int × Int)) × List Nat) :=
  match kA (fun _ => 0) 0 12 bs with
  | .error x => .error x
  | .ok (k, t) => match smallP 11 t with
    | .error x => .error x
    | .ok (n, u) => match eA [] n u with
      | .error x => .error x
      | .ok (es, r) => .ok ((k, es), r)
theorem kA_err {k : Nat → Int} {j m : Nat} {bs : List Nat} {x : Int} (h : smallP 3 bs = .error x) : kA k j (m + 1) bs = .error x := by simp only [kA, h]
theorem kA_ok {k : Nat → Int} {j m v : Nat} {bs t : List Nat} (h : smallP 3 bs = .ok (v, t)) : kA k j (m + 1) bs = kA (kU k j v) (j + 1) m t := by simp only [kA, h]
theorem eA_err {es : List (Int × Int)} {m : Nat} {bs : List Nat} {x : Int} (h : smallP 12 bs = .error x) : eA es (m + 1) bs = .error x := by simp only [eA, h]
theorem eA_err2 {es : List (Int × Int)} {m a : Nat} {bs t : List Nat} {x : Int} (h : smallP 12 bs = .ok (a, t)) (h2 : smallP 12 t = .error x) : eA es (m + 1) bs = .error x := by simp only [eA, h, h2]
theorem eA_ok {es : List (Int × Int)} {m a b : Nat} {bs t u : List Nat} (h : smallP 12 bs = .ok (a, t)) (h2 : smallP 12 t = .ok (b, u)) : eA es (m + 1) bs = eA (es ++ [(((a : Nat) : Int), ((b : Nat) : Int))]) m u := by simp only [eA, h, h2]
theorem small_le {most : Int} {bs t : List Nat} {v : Nat} (h : smallP most bs = .ok (v, t)) : (v : Int) ≤ most := by
  unfold smallP at h
  split at h
  · split at h
    · rename_i h2
      simp only [Except.ok.injEq, Prod.mk.injEq] at h
      rw [← h.1]; exact h2.2
    · cases h
  · cases h
theorem kl_set (k : Nat → Int) (v : Value) {j n : Nat} (hj : j < 12) : (kl k ++ [v]).toArray.setIfInBounds j (.int .i64 (n : Nat)) = (kl (kU k j n) ++ [v]).toArray := by
  rw [List.setIfInBounds_toArray]
  congr 1
  apply List.ext_getElem?
  intro i
  rw [List.getElem?_set]
  by_cases hi : i < 12
  · rw [List.getElem?_append_left (by rw [kl_len]; exact hi), List.getElem?_append_left (by rw [kl_len]; exact hi), kl_get _ hi, kl_get _ hi]
    unfold kU
    by_cases h : j = i
    · subst h
      simp [kl_len]
      omega
    · rw [if_neg h, if_neg (Ne.symm h)]
  · rw [if_neg (by omega), List.getElem?_append_right (by rw [kl_len]; omega), List.getElem?_append_right (by rw [kl_len]; omega), kl_len, kl_len]
theorem kl_set12 (k : Nat → Int) (v v' : Value) : (kl k ++ [v]).toArray.setIfInBounds 12 v' = (kl k ++ [v']).toArray := by
  rw [List.setIfInBounds_toArray]
  congr 1
  rw [List.set_append_right _ _ (by rw [kl_len]; exact Nat.le_refl _), kl_len]
  rfl
/-- A row of edges of the call's own. -/
def ecs (es : List (Int × Int)) : List Value := es.flatMap ec
theorem ecs_len (es : List (Int × Int)) : (ecs es).length = es.length * 2 := by
  induction es with
  | nil => rfl
  | cons e es ih => show (ec e ++ ecs es).length = _; rw [List.length_append, ih, List.length_cons]; show 2 + _ = _; omega
theorem ecs_app (es fs : List (Int × Int)) : ecs (es ++ fs) = ecs es ++ ecs fs := by simp [ecs]
def Eds (w : World) (base : Nat) (v : Value) (es : List (Int × Int)) : Prop := OffR w base 95 2 v es.length (ecs es)
theorem ecs_get : ∀ {es : List (Int × Int)} {i : Nat} {e : Int × Int}, es[i]? = some e → ∀ j u, (ec e)[j]? = some u → (ecs es)[i * 2 + j]? = some u
  | f :: es, 0, e, h, j, u, hu => by
    simp only [List.getElem?_cons_zero, Option.some.injEq] at h
    subst h
    show (ec f ++ ecs es)[0 * 2 + j]? = some u
    rw [List.getElem?_append_left (by rw [Nat.zero_mul, Nat.zero_add]; exact (List.getElem?_eq_some_iff.1 hu).1), Nat.zero_mul, Nat.zero_add]
    exact hu
  | f :: es, i + 1, e, h, j, u, hu => by
    have := ecs_get (es := es) (i := i) (by simpa using h) j u hu
    show (ec f ++ ecs es)[(i + 1) * 2 + j]? = some u
    rw [List.getElem?_append_right (by show 2 ≤ _; omega), show (i + 1) * 2 + j - (ec f).length = i * 2 + j by show (i + 1) * 2 + j - 2 = _; omega]
    exact this
theorem Eds.rows {w : World} {B n c : Nat} {A : Option Addr} {es : List (Int × Int)} (h : Eds w B (.slice A n c) es) : RowsOf ec 2 w A es := by
  by_cases h0 : es = []
  · exact .inl h0
  · obtain ⟨g, o, c', e, _, _, hg⟩ := OffR.lies h (by intro e; exact h0 (List.eq_nil_of_length_eq_zero e))
    simp only [Value.slice.injEq] at e
    obtain ⟨rfl, rfl, rfl⟩ := e
    refine .inr ⟨g, o, rfl, hg, fun i hi j u hu => ?_⟩
    have := OffR.cells h rfl (i * 2 + j) u (ecs_get (List.getElem?_eq_getElem hi) j u hu)
    rw [← Nat.add_assoc] at this
    exact this
theorem info_edge : ∃ i z, Try.prog.info? 95 = some i ∧ i.zero = some z ∧ i.size = 2 ∧ i.bytes = 16 ∧ z.cells.size = 2 := by
  have h : ((Try.prog.info? 95).bind fun i => i.zero.map fun z => (i.size, i.bytes, z.cells.size)) = some (2, 16, 2) := by kernel_rfl
  cases hi : Try.prog.info? 95 with
  | none => rw [hi] at h; cases h
  | some i =>
    rw [hi] at h
    simp only [Option.bind_some, Option.map_eq_some_iff, Prod.mk.injEq] at h
    obtain ⟨z, hz, h1, h2, h3⟩ := h
    exact ⟨i, z, rfl, hz, h1, h2, h3⟩
set_option maxRecDepth 20000 in
theorem wp_app_edge {o : Oper} {a : Act} {K : Act → World → Prop} {Q : Exit → Act → World → Prop} (w : World) (s x : Operand)
    (ho : o.op = .call { callee := .builtin .append, args := #[s, x], argTypes := #[23, 23] }) (base : Nat)
    (v : Value) (l : List (Int × Int)) (hs : a.eval s = v) (hown : Eds w base v l)
    (b : Nat) (c : Nat) (e : Int × Int) (hx : a.eval x = .slice (some ⟨b, 0, none⟩) 1 c) (hc : Blk w b 95 (ec e).toArray) (hl : l.length ≤ 1000) (hbase : base ≤ w.heap.size)
    (hk : ∀ v' w', Eds w' base v' (l ++ [e]) → w.grownBy w' v.ownBlock → (v'.ownBlock = v.ownBlock ∨ v'.ownBlock = some w.heap.size) → K (a.put o.dst v') w') : Oper.wp Try.prog o a w K Q := by
  obtain ⟨i, z, hi, hz, h2, h3, h4⟩ := info_edge
  refine wp_append_off w s x 23 ho base 95 i z Try.underlying23 hi hz (by rw [h4, h2]) (by omega) v l.length (ecs l) hs (by rw [h2]; exact hown) ⟨b, 0, none⟩ 1 c (ecs [e]) hx (by rw [h2, ecs_len]; rfl) ?_ ?_ (by unfold maxLen; omega) (by rw [h3]; omega) hbase ?_
  · intro j u hj
    rcases j with _ | _ | j
    · injection hj with hj; subst hj; exact hc.cell 0
    · injection hj with hj; subst hj; exact hc.cell 1
    · cases hj
  · intro u hu
    simp [ecs, ec] at hu
    rcases hu with rfl | rfl <;> rfl
  · intro v' w' k1 k2 k3
    refine hk v' w' ?_ k2 k3
    unfold Eds
    rw [List.length_append, ecs_app]
    rw [h2] at k1
    exact k1
theorem rdb_keep {L s : Nat} {W W' : World} {bs : List Nat} (h : RdB L W s bs) (hs : W'.heap[s]? = W.heap[s]?) (hL : ∀ k, k < L → k ≠ s → k < W.heap.size → W'.heap[k]? = W.heap[k]?) (hz : W.heap.size ≤ W'.heap.size) : RdB L W' s bs := by
  obtain ⟨A, c, hR, hc, h⟩ := h
  have cs : ∀ i, W'.cell? ⟨s, i, none⟩ = W.cell? ⟨s, i, none⟩ := fun i => World.cell?_of_block hs
  refine ⟨A, c, ⟨(cs 0).trans hR.1, (cs 1).trans hR.2.1, (cs 2).trans hR.2.2.1, fun i => ?_⟩, hc, h.imp id ?_⟩
  · have := hR.2.2.2 i
    simp only [World.frozen?] at this ⊢
    rw [hs]; exact this
  rintro ⟨b, p, e, h1, ⟨h0, h2⟩, h3⟩
  exact ⟨b, p, e, h1, ⟨h0, Nat.lt_of_lt_of_le h2 hz⟩, fun i x hi => (World.cell?_of_block (hL b h0 h1 h2)).trans (h3 i x hi)⟩
/-- A tree that is being read: the reader, the result's box, the tree's. -/
structure GM (L : Nat) (W w : World) (k s gr gt : Nat) (cur : List Nat) (kd : Nat → Int) (vb v : Value) (es : List (Int × Int)) : Prop where
  hk : k < W.heap.size
  hs : s < W.heap.size
  hL : L ≤ W.heap.size
  hr : W.heap.size ≤ gr
  ht : W.heap.size ≤ gt
  off : Off s W w
  rd : RdB L w s cur
  rr : Rdr w k s
  br : Blk w gr 25 #[.int .i64 0, .int .i64 0, .int .i64 0, .int .i64 0, .int .i64 0, .int .i64 0, .int .i64 0, .int .i64 0, .int .i64 0, .int .i64 0, .int .i64 0, .int .i64 0, .slice none 0 0]
  bt : Blk w gt 25 (kl kd ++ [vb]).toArray
  ne : gr ≠ gt
  re : Eds w W.heap.size v es
theorem eds_ne {w : World} {B g : Nat} {t : TypeId} {v : Value} {l : List (Int × Int)} {cs : Array Value} (h : Eds w B v l) (hg : Blk w g t cs) (ht : t ≠ 95) : some g ≠ v.ownBlock := by
  rcases h.2 with ⟨rfl, _⟩ | ⟨k, o, cap, cur, rfl, _, hk, _⟩
  · simp [Value.ownBlock]
  · intro e1
    simp only [Value.ownBlock, Option.some.injEq] at e1
    subst e1
    unfold Blk at hg
    rw [hk] at hg
    simp only [Option.some.injEq, Obj.cells.injEq] at hg
    exact ht hg.2.1.symm
section
variable {L : Nat} {W w w' w9 : World} {k s gr gt : Nat} {cur cur' : List Nat} {kd : Nat → Int} {vb v v' : Value} {es es' : List (Int × Int)}
/-- Something read. -/
theorem GM.read (h : GM L W w k s gr gt cur kd vb v es) (hO : Off s w w') (hB : RdB L w' s cur') : GM L W w' k s gr gt cur' kd vb v es :=
  ⟨h.hk, h.hs, h.hL, h.hr, h.ht, h.off.trans hO, hB, h.rr.off hO, (hO.block gr h.br.lt (by have := h.hs; have := h.hr; omega)).trans h.br, (hO.block gt h.bt.lt (by have := h.hs; have := h.ht; omega)).trans h.bt, h.ne,
    OffR.keep h.re fun b e => hO.block b (OffR.lt h.re b e).2 (by have := (OffR.lt h.re b e).1; have := h.hs; omega)⟩
theorem GM.below (h : GM L W w k s gr gt cur kd vb v es) (hb : Below w.heap.size w w') : GM L W w' k s gr gt cur kd vb v es :=
  h.read ⟨hb.os, hb.tape, hb.output, hb.size, fun b h _ => hb.block b h⟩ (rdb_keep h.rd (hb.block s (Nat.lt_of_lt_of_le h.hs h.off.size)) (fun b _ _ h2 => hb.block b h2) hb.size)
/-- A cell of the tree's box. -/
theorem GM.fill (h : GM L W w k s gr gt cur kd vb v es) {i : Nat} {u : Value} {kd' : Nat → Int} {vb' : Value} (hset : (kl kd ++ [vb]).toArray.setIfInBounds i u = (kl kd' ++ [vb']).toArray) : GM L W (w.setCell ⟨gt, i, none⟩ u) k s gr gt cur kd' vb' v es := by
  have hk : ∀ b, b ≠ gt → (w.setCell ⟨gt, i, none⟩ u).heap[b]? = w.heap[b]? := fun b hb => Below.heap_setCell w ⟨gt, i, none⟩ u b hb
  have hgs : s ≠ gt := by have := h.hs; have := h.ht; omega
  refine ⟨h.hk, h.hs, h.hL, h.hr, h.ht, ⟨h.off.os, h.off.tape, h.off.output, by simpa [World.setCell] using h.off.size, fun b hb hs => (hk b (by have := h.ht; omega)).trans (h.off.block b hb hs)⟩, ?_, ?_, h.br.far h.ne _, ?_, h.ne, OffR.keep h.re fun b e => hk b (fun e2 => eds_ne h.re h.bt (by decide) (by subst e2; exact e.symm))⟩
  · exact rdb_keep h.rd (hk s hgs) (fun b hb _ _ => hk b (by have := h.hL; have := h.ht; omega)) (by simp [World.setCell])
  · exact ⟨h.rr.1, (World.cell?_of_block (hk k (by have := h.hk; have := h.ht; omega))).trans h.rr.2⟩
  · have := h.bt.setCell i u
    rw [hset] at this
    exact this
/-- The row of edges grows. -/
theorem GM.grow (h : GM L W w k s gr gt cur kd vb v es) (hown : Eds w9 W.heap.size v' es') (hg : w.grownBy w9 v.ownBlock) : GM L W w9 k s gr gt cur kd vb v' es' := by
  have hlo : ∀ b, b < W.heap.size → some b ≠ v.ownBlock := fun b hb e => by have := (OffR.lt h.re b e.symm).1; omega
  have hsz := h.off.size
  refine ⟨h.hk, h.hs, h.hL, h.hr, h.ht, ⟨hg.os.trans h.off.os, hg.tape.trans h.off.tape, hg.output.trans h.off.output, Nat.le_trans hsz hg.size, fun b hb hs => (hg.block b (Nat.lt_of_lt_of_le hb hsz) (hlo b hb)).trans (h.off.block b hb hs)⟩, ?_, ?_, (hg.block gr h.br.lt (eds_ne h.re h.br (by decide))).trans h.br, (hg.block gt h.bt.lt (eds_ne h.re h.bt (by decide))).trans h.bt, h.ne, hown⟩
  · exact rdb_keep h.rd (hg.block s (Nat.lt_of_lt_of_le h.hs hsz) (hlo s h.hs)) (fun b hb _ h2 => hg.block b h2 (hlo b (Nat.lt_of_lt_of_le hb h.hL))) hg.size
  · exact ⟨h.rr.1, (World.cell?_of_block (hg.block k (Nat.lt_of_lt_of_le h.hk hsz) (hlo k h.hk))).trans h.rr.2⟩
end
/-- What a reading of a tree ends in. -/
def EndG (L s : Nat) (W : World) (bs : List Nat) (e : Ending) (W' : World) : Prop :=
  Off s W W' ∧ match getP bs with
  | .error x => e = .panicked [{ v := flt s, recovered := false }] ∧ Met' W' s x
  | .ok ((k, es), r) => (RightP ⟨k, es, none, 0⟩ true ∧ RdB L W' s r ∧ ∃ A c, e = .returned (.agg (Tv.cells ⟨k, es, A, c⟩).toArray) ∧ RowsOf ec 2 W' A es ∧ ∀ b o, A = some ⟨b, o, none⟩ → W.heap.size ≤ b) ∨
    (RightP ⟨k, es, none, 0⟩ false ∧ e = .panicked [{ v := flt s, recovered := false }] ∧ Met' W' s 3)
end Tr
end Go.Proofs.Ytopkfmamjlkjiaa

/-
tree: who is reached (mathematics); what reach keeps in memory.
-/
import Derived.Test.YtohnhokddbeheaaTr7
import Derived.Deep.LoopGhost
namespace Go.Proofs.Ytohnhokddbeheaa
open Go.RowKit
set_option linter.unusedSimpArgs false
set_option linter.unusedVariables false
namespace Tr
/-- Reached from s on. -/
inductive Rch (p : Nat → Nat → Bool) (s : Nat) : Nat → Prop
  | base : Rch p s s
  | step {a b : Nat} : Rch p s a → 1 ≤ b → b ≤ 12 → p a b = true → Rch p s b
/-- c came; L is still to be looked at. -/
structure RI (p : Nat → Nat → Bool) (s : Nat) (c : Nat → Bool) (L : List Nat) : Prop where
  st : c s = true
  so : ∀ n, c n = true → Rch p s n ∧ 1 ≤ n ∧ n ≤ 12
  mem : ∀ n ∈ L, c n = true
  cl : ∀ a, c a = true → a ∉ L → ∀ b, 1 ≤ b → b ≤ 12 → p a b = true → c b = true
def newR (p : Nat → Nat → Bool) (c : Nat → Bool) (x : Nat) : List Nat := thoseL fun n => !c n && p x n
def cameR (c : Nat → Bool) (R : List Nat) (n : Nat) : Bool := c n || R.contains n
section
variable {p : Nat → Nat → Bool} {s x : Nat} {c : Nat → Bool} {T : List Nat}
theorem mem_new {n : Nat} : n ∈ newR p c x ↔ 1 ≤ n ∧ n ≤ 12 ∧ c n = false ∧ p x n = true := by
  unfold newR
  rw [those_mem]
  simp
theorem ri_start (h1 : 1 ≤ s) (h2 : s ≤ 12) : RI p s (fun n => decide (n = s)) [s] :=
  ⟨by simp, fun n h => by simp at h; subst h; exact ⟨.base, h1, h2⟩, fun n h => by simpa using h, fun a h hn => by simp at h hn; exact absurd h hn⟩
theorem ri_next (h : RI p s c (x :: T)) : RI p s (cameR c (newR p c x)) (T ++ newR p c x) := by
  have hx := h.mem x (List.mem_cons_self)
  refine ⟨by unfold cameR; rw [h.st]; rfl, fun n hn => ?_, fun n hn => ?_, fun a ha hna b hb1 hb2 hp => ?_⟩
  · unfold cameR at hn
    rcases Bool.or_eq_true _ _ ▸ hn with h1 | h1
    · exact h.so n h1
    · have := mem_new.1 (List.contains_iff_mem.1 h1)
      exact ⟨.step (h.so x hx).1 this.1 this.2.1 this.2.2.2, this.1, this.2.1⟩
  · unfold cameR
    rcases List.mem_append.1 hn with h1 | h1
    · rw [h.mem n (List.mem_cons_of_mem _ h1)]; rfl
    · rw [List.contains_iff_mem.2 h1, Bool.or_true]
  · have hnT : a ∉ T := fun h1 => hna (List.mem_append_left _ h1)
    have hnR : a ∉ newR p c x := fun h1 => hna (List.mem_append_right _ h1)
    have hca : c a = true := by
      unfold cameR at ha
      rcases Bool.or_eq_true _ _ ▸ ha with h1 | h1
      · exact h1
      · exact absurd (List.contains_iff_mem.1 h1) hnR
    unfold cameR
    cases hcb : c b with
    | true => rfl
    | false =>
      by_cases hax : a = x
      · subst hax
        rw [Bool.false_or]
        exact List.contains_iff_mem.2 (mem_new.2 ⟨hb1, hb2, hcb, hp⟩)
      · have := h.cl a hca (by simp [hax, hnT]) b hb1 hb2 hp
        rw [hcb] at this; cases this
theorem ri_end (h : RI p s c []) (n : Nat) : c n = true ↔ Rch p s n := by
  constructor
  · exact fun hc => (h.so n hc).1
  · intro hr
    induction hr with
    | base => exact h.st
    | step _ h1 h2 hp ih => exact h.cl _ ih (by simp) _ h1 h2 hp
end
theorem filter_parts (q r : Nat → Bool) : ∀ l : List Nat, (l.filter fun n => q n && r n).length + (l.filter fun n => q n && !r n).length = (l.filter q).length
  | [] => rfl
  | n :: l => by
    have := filter_parts q r l
    cases hq : q n <;> cases hr : r n <;> simp [hq, hr] <;> omega
/-- How many rounds are still to come. -/
def mu (c : Nat → Bool) (L : List Nat) : Nat := 2 * (thoseL fun n => !c n).length + L.length
theorem mu_next {p : Nat → Nat → Bool} {c : Nat → Bool} {x : Nat} {T : List Nat} : mu (cameR c (newR p c x)) (T ++ newR p c x) < mu c (x :: T) := by
  unfold mu
  have h1 := filter_parts (fun n => !c n) (fun n => p x n) ((List.range 12).map (· + 1))
  have h2 : thoseL (fun n => !cameR c (newR p c x) n) = thoseL (fun n => !c n && !p x n) := by
    refine those_ext fun n hn1 hn2 => ?_
    unfold cameR
    cases hc : c n with
    | true => rfl
    | false =>
      cases hp : p x n with
      | true => rw [List.contains_iff_mem.2 (mem_new.2 ⟨hn1, hn2, hc, hp⟩)]; rfl
      | false =>
        have : (newR p c x).contains n = false := by
          cases h : (newR p c x).contains n with
          | false => rfl
          | true => have := mem_new.1 (List.contains_iff_mem.1 h); rw [hp] at this; cases this.2.2.2
        rw [this]; rfl
  rw [h2, List.length_append, List.length_cons]
  unfold newR thoseL thoseN at *
  omega
/-- Thirteen bools. -/
def cl (c : Nat → Bool) : List Value := (List.range 13).map fun i => .bool (c i)
theorem cl_len (c : Nat → Bool) : (cl c).length = 13 := by simp [cl]
theorem cl_get (c : Nat → Bool) {i : Nat} (h : i < 13) : (cl c)[i]? = some (.bool (c i)) := by
  unfold cl
  rw [List.getElem?_map, List.getElem?_range h]; rfl
theorem cl_set (c : Nat → Bool) (i : Nat) : (cl c).toArray.setIfInBounds i (.bool true) = (cl fun j => c j || decide (j = i)).toArray := by
  rw [List.setIfInBounds_toArray]
  congr 1
  apply List.ext_getElem?
  intro j
  rw [List.getElem?_set]
  by_cases hj : j < 13
  · rw [cl_get _ hj, cl_get _ hj, cl_len]
    by_cases h : i = j
    · subst h; simp [hj]
    · rw [if_neg h]; simp [Ne.symm h]
  · have h1 : ∀ g, (cl g)[j]? = none := fun g => List.getElem?_eq_none (by rw [cl_len]; omega)
    rw [h1, h1, cl_len]
    by_cases h : i = j
    · subst h; simp [hj]
    · simp [h]
attribute [irreducible] cl
theorem nds_ne {w : World} {B g : Nat} {t : TypeId} {v : Value} {l : List Nat} {cs : Array Value} (h : Nds w B v l) (hg : Blk w g t cs) (ht : t ≠ 3) : some g ≠ v.ownBlock := by
  rcases h.2 with ⟨rfl, _⟩ | ⟨k, o, cap, cur, rfl, _, hk, _⟩
  · simp [Value.ownBlock]
  · intro e1
    simp only [Value.ownBlock, Option.some.injEq] at e1
    subst e1
    unfold Blk at hg
    rw [hk] at hg
    simp only [Option.some.injEq, Obj.cells.injEq] at hg
    exact ht hg.2.1.symm
theorem blk_ne {w : World} {g g' : Nat} {t t' : TypeId} {cs cs' : Array Value} (h : Blk w g t cs) (h' : Blk w g' t' cs') (ht : t ≠ t') : g ≠ g' := by
  intro e
  subst e
  unfold Blk at h h'
  rw [h] at h'
  simp only [Option.some.injEq, Obj.cells.injEq] at h'
  exact ht h'.2.1
/-- What reach keeps: came, joined, list. -/
structure RM (W w : World) (gc gj gl : Nat) (jv : Value) (c : Nat → Bool) (v : Value) (L : List Nat) : Prop where
  lc : W.heap.size ≤ gc
  ll : W.heap.size ≤ gl
  bc : Blk w gc 82 (cl c).toArray
  bj : Blk w gj 105 #[jv]
  bl : Blk w gl 40 #[v]
  row : Nds w W.heap.size v L
  bel : Below W.heap.size W w
section
variable {W w w' w9 : World} {gc gj gl : Nat} {jv v v' : Value} {c : Nat → Bool} {L L' : List Nat}
theorem RM.next (h : RM W w gc gj gl jv c v L) (hb : Below w.heap.size w w') : RM W w' gc gj gl jv c v L :=
  ⟨h.lc, h.ll, h.bc.next hb, h.bj.next hb, h.bl.next hb, h.row.next hb, h.bel.trans (hb.mono h.bel.size)⟩
theorem RM.came (h : RM W w gc gj gl jv c v L) (i : Nat) : RM W (w.setCell ⟨gc, i, none⟩ (.bool true)) gc gj gl jv (fun j => c j || decide (j = i)) v L := by
  have h1 : gj ≠ gc := blk_ne h.bj h.bc (by decide)
  have h2 : gl ≠ gc := blk_ne h.bl h.bc (by decide)
  have h3 := nds_ne h.row h.bc (by decide)
  refine ⟨h.lc, h.ll, ?_, h.bj.far h1 _, h.bl.far h2 _, h.row.keep fun k e => Below.heap_setCell w _ _ k (fun hk => h3 (by subst hk; exact e.symm)), Below.setCell h.bel h.lc _⟩
  have := h.bc.setCell i (.bool true)
  rw [cl_set] at this
  exact this
/-- The row of what is to be looked at changes. -/
theorem RM.set (h : RM W w gc gj gl jv c v L) (hown : Nds w9 W.heap.size v' L') (hg : w.grownBy w9 v.ownBlock) : RM W (w9.setCell ⟨gl, 0, none⟩ v') gc gj gl jv c v' L' := by
  have a1 := nds_ne h.row h.bc (by decide)
  have a2 := nds_ne h.row h.bj (by decide)
  have a3 := nds_ne h.row h.bl (by decide)
  have b1 : Blk w9 gc 82 (cl c).toArray := (hg.block gc h.bc.lt a1).trans h.bc
  have b2 : Blk w9 gj 105 #[jv] := (hg.block gj h.bj.lt a2).trans h.bj
  have b3 : Blk w9 gl 40 #[v] := (hg.block gl h.bl.lt a3).trans h.bl
  have n1 : gc ≠ gl := blk_ne b1 b3 (by decide)
  have n2 : gj ≠ gl := blk_ne b2 b3 (by decide)
  have n3 := nds_ne hown b3 (by decide)
  exact ⟨h.lc, h.ll, b1.far n1 _, b2.far n2 _, b3.setCell 0 v', hown.keep fun k e => Below.heap_setCell w9 _ _ k (fun hk => n3 (by subst hk; exact e.symm)), Below.setCell (below_grown h.bel hg (fun k e => (h.row.lt k e).1)) h.ll _⟩
/-- A new box. -/
theorem RM.box (h : RM W w gc gj gl jv c v L) : RM W (w.alloc (.cells #[v] 40)) gc gj w.heap.size jv c v L := by
  have hb := (Below.refl w.heap.size w).alloc (Nat.le_refl _) (.cells #[v] 40)
  have h' := h.next hb
  exact ⟨h'.lc, h.bel.size, h'.bc, h'.bj, Blk.new _ _ _, h'.row, h'.bel⟩
end
end Tr
end Go.Proofs.Ytohnhokddbeheaa

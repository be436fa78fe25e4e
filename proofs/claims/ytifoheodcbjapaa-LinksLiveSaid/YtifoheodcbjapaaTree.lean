/-
A region that draws its order, in which operations that make memory float: a plan that branches. It speaks of any program.
-/
import Derived.Test.YtifoheodcbjapaaPlan
namespace Go.Proofs.Ytifoheodcbjapaa
open Go.RowKit

/-- A plan: what is taken first; what may come up: one, two or three; the last one. -/
inductive Tree (α : Type) where
  | nil
  | take (o : α) (r : Tree α)
  | one (o : α) (r : Tree α)
  | two (o : α) (r : Tree α) (o' : α) (r' : Tree α)
  | three (o : α) (r : Tree α) (o' : α) (r' : Tree α) (o'' : α) (r'' : Tree α)
  | last (o : α)

def Tree.map {α β : Type} (f : α → β) : Tree α → Tree β
  | .nil => .nil
  | .take o r => .take (f o) (r.map f)
  | .one o r => .one (f o) (r.map f)
  | .two o r o' r' => .two (f o) (r.map f) (f o') (r'.map f)
  | .three o r o' r' o'' r'' => .three (f o) (r.map f) (f o') (r'.map f) (f o'') (r''.map f)
  | .last o => .last (f o)

def treeOk (md : Region.Mode) (ops : Array Oper) (l : Nat) : Array Bool → Tree Nat → Bool
  | listed, .nil => (Region.ready md ops listed).isEmpty
  | listed, .take i r => Region.free md ops listed i && (Region.ready md ops listed).contains i && treeOk md ops l (listed.setIfInBounds i true) r
  | listed, .one i r => (Region.ready md ops listed == [i]) && i != l && treeOk md ops l (listed.setIfInBounds i true) r
  | listed, .two i r j r' => (Region.ready md ops listed == [i, j]) && i != l && j != l && treeOk md ops l (listed.setIfInBounds i true) r && treeOk md ops l (listed.setIfInBounds j true) r'
  | listed, .three i r j r' k r'' => (Region.ready md ops listed == [i, j, k]) && i != l && j != l && k != l && treeOk md ops l (listed.setIfInBounds i true) r && treeOk md ops l (listed.setIfInBounds j true) r' && treeOk md ops l (listed.setIfInBounds k true) r''
  | listed, .last i => (Region.ready md ops listed == [i]) && i == l && (Region.ready md ops (listed.setIfInBounds i true)).isEmpty

section
variable {P : Program} {ops : Array Oper} {Q : Exit → Act → World → Prop} {md : Region.Mode} {S : World → Prop} {l : Nat}

/-- One operation is carried out; S is to be shown anew; then X. -/
def Carried (P : Program) (ops : Array Oper) (Q : Exit → Act → World → Prop) (S : World → Prop) (o : Option Oper) (X : Act → World → Prop) (a : Act) (w : World) : Prop :=
  match o with
  | none => False
  | some o => ∀ K' : Act → World → Prop, Shut (∀ a w, S w → (S w → X a w) → K' a w) → if Region.wanted o (yielded ops a.tmps) = true then Oper.wp P o a w K' Q else K' (a.put o.dst undef) w

def wpTree (P : Program) (ops : Array Oper) (Q : Exit → Act → World → Prop) (S : World → Prop) : Tree (Option Oper) → Act → World → Prop
  | .nil, a, w => Q .normal a w
  | .take none _, _, _ => False
  | .take (some o) r, a, w => ∃ v, YieldsIf P ops S o v a ∧ wpTree P ops Q S r (a.put o.dst v) w
  | .one o r, a, w => Carried P ops Q S o (wpTree P ops Q S r) a w
  | .two o r o' r', a, w => Carried P ops Q S o (wpTree P ops Q S r) a w ∧ Carried P ops Q S o' (wpTree P ops Q S r') a w
  | .three o r o' r' o'' r'', a, w => Carried P ops Q S o (wpTree P ops Q S r) a w ∧ Carried P ops Q S o' (wpTree P ops Q S r') a w ∧ Carried P ops Q S o'' (wpTree P ops Q S r'') a w
  | .last none, _, _ => False
  | .last (some o), a, w => ∀ K' : Act → World → Prop, Shut (∀ a w, Q .normal a w → K' a w) → if Region.wanted o (yielded ops a.tmps) = true then Oper.wp P o a w K' Q else K' (a.put o.dst undef) w

theorem wpTree.take {o : Oper} {r : Tree (Option Oper)} {a : Act} {w : World} {v : Value} (hy : YieldsIf P ops S o v a) (h : wpTree P ops Q S r (a.put o.dst v) w) : wpTree P ops Q S (.take (some o) r) a w := ⟨v, hy, h⟩
theorem wpTree.one {o : Oper} {r : Tree (Option Oper)} {a : Act} {w : World}
    (h : ∀ K' : Act → World → Prop, Shut (∀ a w, S w → (S w → wpTree P ops Q S r a w) → K' a w) → if Region.wanted o (yielded ops a.tmps) = true then Oper.wp P o a w K' Q else K' (a.put o.dst undef) w) : wpTree P ops Q S (.one (some o) r) a w := h
theorem wpTree.two {o o' : Option Oper} {r r' : Tree (Option Oper)} {a : Act} {w : World} (h : wpTree P ops Q S (.one o r) a w) (h' : wpTree P ops Q S (.one o' r') a w) : wpTree P ops Q S (.two o r o' r') a w := ⟨h, h'⟩
theorem wpTree.three {o o' o'' : Option Oper} {r r' r'' : Tree (Option Oper)} {a : Act} {w : World} (h : wpTree P ops Q S (.one o r) a w) (h' : wpTree P ops Q S (.one o' r') a w) (h'' : wpTree P ops Q S (.one o'' r'') a w) : wpTree P ops Q S (.three o r o' r' o'' r'') a w := ⟨h, h', h''⟩
theorem wpTree.last {o : Oper} {a : Act} {w : World}
    (h : ∀ K' : Act → World → Prop, Shut (∀ a w, Q .normal a w → K' a w) → if Region.wanted o (yielded ops a.tmps) = true then Oper.wp P o a w K' Q else K' (a.put o.dst undef) w) : wpTree P ops Q S (.last (some o)) a w := h
theorem wpTree.done {a : Act} {w : World} (h : Q .normal a w) : wpTree P ops Q S .nil a w := h

def Tree.size {α : Type} : Tree α → Nat
  | .nil => 0
  | .take _ r => r.size + 1
  | .one _ r => r.size + 1
  | .two _ r _ r' => max r.size r'.size + 1
  | .three _ r _ r' _ r'' => max r.size (max r'.size r''.size) + 1
  | .last _ => 1

theorem carried_op {i : Nat} {listed : Array Bool} {fuel : Nat} {X : Act → World → Prop} {a : Act} {w : World} (_hne : i ≠ l)
    (hX : ∀ a w, S w → X a w → wpAnyL P md ops Q S l fuel (listed.setIfInBounds i true) a w) (h : Carried P ops Q S ops[i]? X a w) :
    wpOp P ops Q i (fun a' w' => (i ≠ l → S w') ∧ wpAnyL P md ops Q S l fuel (listed.setIfInBounds i true) a' w') a w := by
  cases ho : ops[i]? with
  | none => rw [ho] at h; exact h.elim
  | some o =>
    rw [ho] at h
    exact wpOp_step ho fun K' hK => h K' (fun a w hS hW => hK a w ⟨fun _ => hS, hX a w hS (hW hS)⟩)

theorem tree_sound (hs : Region.noSelect ops = true) (hl : lastOk md ops l = true) (hQ : ∀ c (a : Act) d v w, Q (.panic c) (a.put d v) w → Q (.panic c) a w) :
    ∀ (t : Tree Nat) (fuel : Nat) (listed : Array Bool) (a : Act) (w : World), t.size ≤ fuel → treeOk md ops l listed t = true → S w → wpTree P ops Q S (t.map fun i => ops[i]?) a w → wpAnyL P md ops Q S l fuel listed a w := by
  intro t
  induction t with
  | nil =>
    intro fuel listed a w _ hp _ h
    have h0 : Region.ready md ops listed = [] := by simpa [treeOk] using hp
    cases fuel with
    | zero => exact ⟨h0, h⟩
    | succ n => exact ⟨fun _ => h, by rw [h0]; simp⟩
  | take i r ih =>
    intro fuel listed a w hf hp hS h
    obtain ⟨n, rfl⟩ : ∃ n, fuel = n + 1 := ⟨fuel - 1, by simp [Tree.size] at hf; omega⟩
    simp only [treeOk, Bool.and_eq_true] at hp
    obtain ⟨⟨h1, h2⟩, h3⟩ := hp
    simp only [Tree.map] at h
    cases ho : ops[i]? with
    | none => rw [ho] at h; exact h.elim
    | some o =>
      rw [ho] at h
      have hi : i < ops.size := (Array.getElem?_eq_some_iff.1 ho).1
      obtain ⟨v, hy, h⟩ := h
      exact wpAnyL_first ho (Region.noSelect_spec hs) (lastOk_spec hl hi) (fun c a w => hQ c a _ _ w) n listed a w (Region.free_spec ho h1) (by simpa using h2) hy hS (ih n _ _ _ (by simp [Tree.size] at hf; omega) h3 hS h)
  | one i r ih =>
    intro fuel listed a w hf hp hS h
    obtain ⟨n, rfl⟩ : ∃ n, fuel = n + 1 := ⟨fuel - 1, by simp [Tree.size] at hf; omega⟩
    simp only [treeOk, Bool.and_eq_true, beq_iff_eq, bne_iff_ne] at hp
    obtain ⟨⟨h1, h2⟩, h3⟩ := hp
    refine ⟨fun h0 => (by rw [h1] at h0; cases h0), fun j hj => ?_⟩
    rw [h1] at hj
    obtain rfl : j = i := by simpa using hj
    exact carried_op h2 (fun a w hS hW => ih n _ a w (by simp [Tree.size] at hf; omega) h3 hS hW) h
  | two i r i' r' ih ih' =>
    intro fuel listed a w hf hp hS h
    obtain ⟨n, rfl⟩ : ∃ n, fuel = n + 1 := ⟨fuel - 1, by simp [Tree.size] at hf; omega⟩
    simp only [treeOk, Bool.and_eq_true, beq_iff_eq, bne_iff_ne] at hp
    obtain ⟨⟨⟨⟨h1, h2⟩, h2'⟩, h3⟩, h3'⟩ := hp
    refine ⟨fun h0 => (by rw [h1] at h0; cases h0), fun j hj => ?_⟩
    rw [h1] at hj
    have hj : j = i ∨ j = i' := by simpa using hj
    rcases hj with rfl | rfl
    · exact carried_op h2 (fun a w hS hW => ih n _ a w (by simp [Tree.size] at hf; omega) h3 hS hW) h.1
    · exact carried_op h2' (fun a w hS hW => ih' n _ a w (by simp [Tree.size] at hf; omega) h3' hS hW) h.2
  | three i r i' r' i'' r'' ih ih' ih'' =>
    intro fuel listed a w hf hp hS h
    obtain ⟨n, rfl⟩ : ∃ n, fuel = n + 1 := ⟨fuel - 1, by simp [Tree.size] at hf; omega⟩
    simp only [treeOk, Bool.and_eq_true, beq_iff_eq, bne_iff_ne] at hp
    obtain ⟨⟨⟨⟨⟨⟨h1, h2⟩, h2'⟩, h2''⟩, h3⟩, h3'⟩, h3''⟩ := hp
    refine ⟨fun h0 => (by rw [h1] at h0; cases h0), fun j hj => ?_⟩
    rw [h1] at hj
    have hj : j = i ∨ j = i' ∨ j = i'' := by simpa using hj
    rcases hj with rfl | rfl | rfl
    · exact carried_op h2 (fun a w hS hW => ih n _ a w (by simp [Tree.size] at hf; omega) h3 hS hW) h.1
    · exact carried_op h2' (fun a w hS hW => ih' n _ a w (by simp [Tree.size] at hf; omega) h3' hS hW) h.2.1
    · exact carried_op h2'' (fun a w hS hW => ih'' n _ a w (by simp [Tree.size] at hf; omega) h3'' hS hW) h.2.2
  | last i =>
    intro fuel listed a w hf hp hS h
    obtain ⟨n, rfl⟩ : ∃ n, fuel = n + 1 := ⟨fuel - 1, by simp [Tree.size] at hf; omega⟩
    simp only [treeOk, Bool.and_eq_true, beq_iff_eq] at hp
    obtain ⟨⟨h1, h2⟩, h3⟩ := hp
    have h0 : Region.ready md ops (listed.setIfInBounds i true) = [] := by simpa using h3
    refine ⟨fun h0 => (by rw [h1] at h0; cases h0), fun j hj => ?_⟩
    rw [h1] at hj
    obtain rfl : j = i := by simpa using hj
    simp only [Tree.map] at h
    cases ho : ops[j]? with
    | none => rw [ho] at h; exact h.elim
    | some o =>
      rw [ho] at h
      refine wpOp_step ho fun K' hK => h K' (fun a w hq => hK a w ⟨fun hne => absurd h2 hne, ?_⟩)
      cases n with
      | zero => exact ⟨h0, hq⟩
      | succ n => exact ⟨fun _ => hq, by rw [h0]; simp⟩

/-- The beginning. -/
theorem wp_region_tree {id : Nat} {a : Act} {w : World} (t : Tree Nat) (l : Nat) (hm : P.follows .mixedOrders = true) (hs : Region.noSelect ops = true) (hlk : lastOk .any ops l = true) (hp : treeOk .any ops l (Array.replicate ops.size false) t = true) (hl : decide (t.size ≤ ops.size) = true)
    (hQ : ∀ c (a : Act) d v w, Q (.panic c) (a.put d v) w → Q (.panic c) a w) (hS : S w.drew)
    (h : S w.drew → wpTree P ops Q S (t.map fun i => ops[i]?) a w.drew) : (Code.region id ops true).wp P Q a w :=
  wp_region_any hm (wpAny_of_l _ _ _ _ (tree_sound hs hlk hQ t ops.size (Array.replicate ops.size false) a w.drew (of_decide_eq_true hl) hp hS (h hS)))
end
end Go.Proofs.Ytifoheodcbjapaa

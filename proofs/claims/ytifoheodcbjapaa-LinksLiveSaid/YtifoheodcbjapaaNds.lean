/-
Rows of numbers that a call lays one by one.
-/
import Derived.Test.YtifoheodcbjapaaVec
import Derived.Test.YtifoheodcbjapaaRead6
import Derived.Test.YtifoheodcbjapaaAppNew
import Derived.Test.YtifoheodcbjapaaTurn
import Derived.Test.YtifoheodcbjapaaStore
import Derived.Test.YtifoheodcbjapaaTreeL
import Derived.Test.YtifoheodcbjapaaRows2
import Derived.Test.YtifoheodcbjapaaOff
import Derived.Deep.CutRange
namespace Go.Proofs.Ytifoheodcbjapaa
open Go.RowKit
set_option linter.unusedSimpArgs false
set_option linter.unusedVariables false
namespace Nd
theorem step_build_lit {P : Program} {ops : Array Oper} {o : Oper} {a : Act} {w : World} {K : Act → World → Prop} {Q : Exit → Act → World → Prop} {E : Prop} (cells : Array Value) (hw : Region.wanted o (yielded ops a.tmps) = true) (t : TypeId) (parts : List (Nat × Operand))
    (ho : o.op = .build t parts.toArray) (hp : P.built t (parts.map fun x => (x.1, a.eval x.2)) = some cells) (h : K (a.put o.dst (.agg cells)) w) : if Region.wanted o (yielded ops a.tmps) = true then Oper.wp P o a w K Q else E := by
  have e : (parts.toArray.map fun x => (x.1, a.eval x.2)).toList = parts.map fun x => (x.1, a.eval x.2) := by simp
  have hp' : P.built t (parts.toArray.map fun x => (x.1, a.eval x.2)).toList = some cells := by rw [e]; exact hp
  rw [if_pos hw]
  refine wp_build t parts.toArray ho (Option.isSome_iff_exists.2 ⟨_, hp'⟩) ?_
  show K (a.put o.dst (.agg ((P.built t (parts.toArray.map fun x => (x.1, a.eval x.2)).toList).getD #[]))) w
  rw [hp']; exact h
theorem wpList_build_lit {P : Program} {ops : Array Oper} {rest : List Oper} {o : Oper} {a : Act} {w : World} {Q : Exit → Act → World → Prop} (cells : Array Value) (hw : Region.wanted o (yielded ops a.tmps) = true) (t : TypeId) (parts : List (Nat × Operand))
    (ho : o.op = .build t parts.toArray) (hp : P.built t (parts.map fun x => (x.1, a.eval x.2)) = some cells)
    (h : wpList P ops Q rest (a.put o.dst (.agg cells)) w) : wpList P ops Q (o :: rest) a w :=
  wpList_step fun _ hK => step_build_lit cells hw t parts ho hp (hK _ _ h)
theorem below_grown {W w w' : World} {v : Value} (h : Below W.heap.size W w) (hg : w.grownBy w' v.ownBlock) (hl : ∀ k, v.ownBlock = some k → W.heap.size ≤ k) : Below W.heap.size W w' :=
  ⟨hg.os.trans h.os, hg.tape.trans h.tape, hg.output.trans h.output, Nat.le_trans h.size hg.size, fun k hk => (hg.block k (Nat.lt_of_lt_of_le hk h.size) (fun e => by have := hl k e.symm; omega)).trans (h.block k hk)⟩
theorem wrap_n (j jj : Nat) (h : jj = j + 1) (h2 : j ≤ 1000000) : wrap64 ((j : Int) + 1) = ((jj : Nat) : Int) := by unfold wrap64; omega
theorem info_int : ∃ i z, Try.prog.info? 3 = some i ∧ i.zero = some z ∧ i.size = 1 ∧ i.bytes = 8 ∧ z.cells.size = 1 := by
  have h : ((Try.prog.info? 3).bind fun i => i.zero.map fun z => (i.size, i.bytes, z.cells.size)) = some (1, 8, 1) := by kernel_rfl
  cases hi : Try.prog.info? 3 with
  | none => rw [hi] at h; cases h
  | some i =>
    rw [hi] at h
    simp only [Option.bind_some, Option.map_eq_some_iff, Prod.mk.injEq] at h
    obtain ⟨z, hz, h1, h2, h3⟩ := h
    exact ⟨i, z, rfl, hz, h1, h2, h3⟩
def ints (l : List Nat) : List Value := l.map fun n => .int .i64 ((n : Nat) : Int)
theorem ints_len (l : List Nat) : (ints l).length = l.length := by simp [ints]
theorem ints_app (l m : List Nat) : ints (l ++ m) = ints l ++ ints m := by simp [ints]
theorem ints_get {l : List Nat} {i n : Nat} (h : l[i]? = some n) : (ints l)[i]? = some (.int .i64 (n : Nat)) := by unfold ints; rw [List.getElem?_map, h]; rfl
/-- A row of nodes. -/
def Nds (w : World) (base : Nat) (v : Value) (l : List Nat) : Prop := OffR w base 3 1 v l.length (ints l)
section
variable {w w' : World} {base : Nat} {v : Value} {l : List Nat}
theorem Nds.nil (w : World) (base : Nat) : Nds w base (.slice none 0 0) [] := OffR.nil _ _ _ _
theorem Nds.next (h : Nds w base v l) (hb : Below w.heap.size w w') : Nds w' base v l := OffR.next h hb
theorem Nds.keep (h : Nds w base v l) (hk : ∀ k, v.ownBlock = some k → w'.heap[k]? = w.heap[k]?) : Nds w' base v l := OffR.keep h hk
theorem Nds.lt (h : Nds w base v l) : ∀ k, v.ownBlock = some k → base ≤ k ∧ k < w.heap.size := OffR.lt h
theorem Nds.shape (h : Nds w base v l) : ∃ A c, v = .slice A l.length c := OffR.shape h
theorem Nds.le {B : Nat} (h : Nds w base v l) (hB : B ≤ base) : Nds w B v l := by
  refine ⟨h.1, h.2.imp id ?_⟩
  rintro ⟨g, o, cap, cur, e1, hb, r⟩
  exact ⟨g, o, cap, cur, e1, Nat.le_trans hB hb, r⟩
/-- Where a node of a row lies. -/
theorem Nds.at_ (h : Nds w base v l) {i n : Nat} (hi : l[i]? = some n) : ∃ g o c, v = .slice (some ⟨g, o, none⟩) l.length c ∧ g < w.heap.size ∧ w.cell? ⟨g, o + i, none⟩ = some (.int .i64 (n : Nat)) := by
  obtain ⟨g, o, c, e, -, -, hg⟩ := h.lies (by have := (List.getElem?_eq_some_iff.1 hi).1; omega)
  exact ⟨g, o, c, e, hg, h.cells e i _ (ints_get hi)⟩
end
set_option maxRecDepth 20000 in
theorem wp_app_int {o : Oper} {a : Act} {K : Act → World → Prop} {Q : Exit → Act → World → Prop} (w : World) (s x : Operand)
    (ho : o.op = .call { callee := .builtin .append, args := #[s, x], argTypes := #[60, 60] }) (base : Nat)
    (v : Value) (l : List Nat) (hs : a.eval s = v) (hown : Nds w base v l)
    (b : Nat) (c : Nat) (m : Nat) (hx : a.eval x = .slice (some ⟨b, 0, none⟩) 1 c) (hc : w.cell? ⟨b, 0, none⟩ = some (.int .i64 (m : Nat))) (hl : l.length ≤ 1000) (hbase : base ≤ w.heap.size)
    (h : ∀ v' w', Nds w' base v' (l ++ [m]) → w.grownBy w' v.ownBlock → (v'.ownBlock = v.ownBlock ∨ v'.ownBlock = some w.heap.size) → K (a.put o.dst v') w') : Oper.wp Try.prog o a w K Q := by
  obtain ⟨i, z, hi, hz, h2, h3, h4⟩ := info_int
  refine wp_append_off w s x 60 ho base 3 i z Try.underlying60 hi hz (by rw [h4, h2]) (by omega) v l.length (ints l) hs (by rw [h2]; exact hown) ⟨b, 0, none⟩ 1 c (ints [m]) hx (by rw [h2]; rfl) ?_ ?_ (by unfold maxLen; omega) (by rw [h3]; omega) hbase ?_
  · intro j u hj
    have hj0 : j = 0 := by have := (List.getElem?_eq_some_iff.1 hj).1; simp [ints] at this; exact this
    subst hj0
    rw [ints_get (n := m) rfl] at hj
    injection hj with hj
    subst hj
    exact hc
  · intro u hu
    simp [ints] at hu
    subst hu
    rfl
  · intro v' w' k1 k2 k3
    refine h v' w' ?_ k2 k3
    unfold Nds
    rw [List.length_append, ints_app]
    rw [h2] at k1
    exact k1
def thoseN (p : Nat → Bool) (j : Nat) : List Nat := ((List.range j).map (· + 1)).filter p
def thoseL (p : Nat → Bool) : List Nat := thoseN p 12
theorem those_zero (p : Nat → Bool) : thoseN p 0 = [] := rfl
theorem those_succ (p : Nat → Bool) (j : Nat) : thoseN p (j + 1) = if p (j + 1) then thoseN p j ++ [j + 1] else thoseN p j := by
  unfold thoseN
  rw [List.range_succ, List.map_append, List.filter_append]
  cases h : p (j + 1) <;> simp [h]
theorem those_le (p : Nat → Bool) (j : Nat) : (thoseN p j).length ≤ j := by
  unfold thoseN
  refine Nat.le_trans (List.length_filter_le _ _) ?_
  simp
theorem those_mem {p : Nat → Bool} {n : Nat} : n ∈ thoseL p ↔ 1 ≤ n ∧ n ≤ 12 ∧ p n = true := by
  unfold thoseL thoseN
  simp only [List.mem_filter, List.mem_map, List.mem_range]
  constructor
  · rintro ⟨⟨a, h1, rfl⟩, h2⟩; exact ⟨by omega, by omega, h2⟩
  · rintro ⟨h1, h2, h3⟩; exact ⟨⟨n - 1, by omega, by omega⟩, h3⟩
theorem those_ext {p q : Nat → Bool} (h : ∀ n, 1 ≤ n → n ≤ 12 → p n = q n) : thoseL p = thoseL q := by
  unfold thoseL thoseN
  refine List.filter_congr fun x hx => ?_
  simp only [List.mem_map, List.mem_range] at hx
  obtain ⟨a, h1, rfl⟩ := hx
  exact h _ (by omega) (by omega)
end Nd
end Go.Proofs.Ytifoheodcbjapaa

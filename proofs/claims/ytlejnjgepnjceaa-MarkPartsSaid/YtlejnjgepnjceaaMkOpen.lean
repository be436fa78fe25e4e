/-
Rows of the document's marks that came in.
-/
import Derived.Test.YtlejnjgepnjceaaMk6
import Derived.Test.YtlejnjgepnjceaaLaw
import Derived.Deep.Slices
namespace Go.Proofs.Ytlejnjgepnjceaa
open Go.ChangeShapes Go.WideShapes Go.ChangeAt Go.RowKit
namespace Mko
theorem add_plain (b o j : Nat) : (⟨b, o, none⟩ : Addr).add j = ⟨b, o + j, none⟩ := by unfold Addr.add; split <;> simp_all
end Mko
section
variable {H : Type} {enc : TypeId × Value → H} {w : World}
theorem cells_rmark : Try.prog.cellsOf 63 = 3 := by kernel_rfl
theorem cells_rone : Try.prog.cellsOf 3 = 1 ∧ Try.prog.cellsOf 4 = 1 ∧ Try.prog.cellsOf 22 = 1 := ⟨by kernel_rfl, by kernel_rfl, by kernel_rfl⟩
theorem three_cells {cs : List Value} {a b c : Value} (hl : cs.length = 3) (h0 : (cs.drop 0).take 1 = [a]) (h1 : (cs.drop 1).take 1 = [b]) (h2 : (cs.drop 2).take 1 = [c]) : cs = [a, b, c] := by
  match cs, hl with
  | [x0, x1, x2], _ =>
    simp only [List.drop_zero, List.drop_succ_cons, List.take_succ_cons, List.take_zero, List.cons.injEq, and_true] at h0 h1 h2
    rw [h0, h1, h2]
set_option maxRecDepth 100000 in
theorem open_rmark_cells {base fuel : Nat} {sp : Nat → Bool} {hd : Bool} {cs : List Value} {x : DataW H × List MemPlace} (h : DataW.trod enc Try.prog w base sp hd fuel 63 cs = some x) : ∃ o : Mk, cs = o.rcells ∧ (-9223372036854775808 ≤ o.f ∧ o.f < 9223372036854775808) ∧ o.p < 18446744073709551616 := by
  obtain ⟨xs, m, _, hx, hcl, hlen, hg⟩ := DataW.trod_struct Try.underlying63 h
  rw [cells_rmark] at hcl
  have g0 : DataW.trod enc Try.prog w base sp hd m 3 ((cs.drop 0).take (Try.prog.cellsOf 3)) = xs[0]? := hg 0 _ rfl
  have g1 : DataW.trod enc Try.prog w base sp hd m 4 ((cs.drop 1).take (Try.prog.cellsOf 4)) = xs[1]? := hg 1 _ rfl
  have g2 : DataW.trod enc Try.prog w base sp hd m 22 ((cs.drop 2).take (Try.prog.cellsOf 22)) = xs[2]? := hg 2 _ rfl
  have hlen3 : xs.length = 3 := hlen
  clear hg hlen
  rw [cells_rone.1] at g0
  rw [cells_rone.2.1] at g1
  rw [cells_rone.2.2] at g2
  rw [List.getElem?_eq_getElem (by omega)] at g0 g1 g2
  obtain ⟨k, e0, _, w0⟩ := DataW.trod_int Try.underlying3 g0
  obtain ⟨s, e1, _⟩ := DataW.trod_bool Try.underlying4 g1
  obtain ⟨p, e2, _, w2⟩ := DataW.trod_int Try.underlying22 g2
  have b2 := bounds_u64 w2
  obtain ⟨p', rfl⟩ : ∃ p' : Nat, p = p' := ⟨p.toNat, by omega⟩
  exact ⟨⟨k, s, p'⟩, by rw [rmk_def]; exact three_cells hcl e0 e1 e2, (by have := bounds_i64 w0; exact ⟨by show _ ≤ k; omega, by show k < _; omega⟩), by show p' < _; omega⟩
set_option maxRecDepth 100000 in
theorem open_rmarks {b0 : Nat} {r : Reach} {v : Value} {d : DataW H} {ps : List MemPlace} (hv : Value.okWide Try.prog w r b0 61 v) (h : DataW.Trod enc Try.prog w 0 (fun _ => true) true 61 v d ps) :
    ∃ (A : Option Addr) (n c : Nat) (l : List Mk), v = .slice A n c ∧ l.length = n ∧ n ≤ c ∧ n ≤ 9223372036854775807 ∧ RMks w A l ∧ ∀ p ∈ l, (-9223372036854775808 ≤ p.f ∧ p.f < 9223372036854775808) ∧ p.p < 18446744073709551616 := by
  obtain ⟨a0, len0, cap0, rfl⟩ := okWide_slice Try.underlying61 hv
  obtain ⟨fuel, hf⟩ := h
  rcases Go.Deep.open_slice Try.underlying61 hf with ⟨hcs, _⟩ | ⟨a, len, cap, m, n, D, Pl, hcs, _, hl, hm, hmm, hx, hi⟩
  · simp [Value.cells] at hcs
    obtain ⟨rfl, rfl, rfl⟩ := hcs
    exact ⟨none, 0, 0, [], rfl, rfl, by simp, by simp, Or.inl rfl, by simp⟩
  · simp [Value.cells] at hcs
    obtain ⟨rfl, rfl, rfl⟩ := hcs
    rw [if_pos rfl] at hmm
    subst hmm
    unfold maxLen at hm
    rw [cells_rmark] at hi hx
    obtain ⟨V, hV⟩ : ∃ V : Nat → Mk, ∀ i, i < m → ∃ cs', w.cells? 0 (a.add (i * 3)) 3 = some cs' ∧ cs' = (V i).rcells ∧ (-9223372036854775808 ≤ (V i).f ∧ (V i).f < 9223372036854775808) ∧ (V i).p < 18446744073709551616 := by
      have : ∀ i, ∃ p : Mk, i < m → ∃ cs', w.cells? 0 (a.add (i * 3)) 3 = some cs' ∧ cs' = p.rcells ∧ (-9223372036854775808 ≤ p.f ∧ p.f < 9223372036854775808) ∧ p.p < 18446744073709551616 := by
        intro i
        by_cases h : i < m
        · obtain ⟨cs', h1, h2⟩ := hi i h
          obtain ⟨p, e, hp⟩ := open_rmark_cells h2
          exact ⟨p, fun _ => ⟨cs', h1, e, hp⟩⟩
        · exact ⟨⟨0, false, 0⟩, fun h' => absurd h' h⟩
      exact ⟨fun i => (this i).choose, fun i => (this i).choose_spec⟩
    refine ⟨some a, len0, m, (List.range len0).map V, rfl, by simp, by omega, by omega, ?_, ?_⟩
    · by_cases h0 : len0 = 0
      · left; simp [h0]
      · right
        obtain ⟨cs', h1, e, _⟩ := hV 0 (by omega)
        obtain ⟨_, hlen, hc⟩ := World.cells?_some h1
        have h00 := hc 0 (by omega)
        rw [e, Nat.zero_mul, rmk_def] at h00
        have h00 : w.cell? ((a.add 0).add 0) = some (.int .i64 (V 0).f) := h00
        obtain ⟨b, off, spot⟩ := a
        have hspot : spot = none := by simpa [Addr.add] using World.cell?_spot h00
        subst hspot
        have hb : b < w.heap.size := by
          have := World.block_lt_of_cell? w _ h00
          simpa [Addr.add] using this
        refine ⟨b, off, rfl, hb, fun i hi' => ?_⟩
        have hi2 : i < len0 := by simpa using hi'
        obtain ⟨cs', h1, e, _⟩ := hV i (by omega)
        obtain ⟨_, hlen, hc⟩ := World.cells?_some h1
        intro j u hu
        rw [List.getElem_map, List.getElem_range] at hu
        have hj : j < 3 := by have := (List.getElem?_eq_some_iff.1 hu).1; rwa [rmk_len] at this
        have := hc j hj
        rw [e, Mko.add_plain, Mko.add_plain] at this
        rw [this]; exact hu
    · intro p hp
      obtain ⟨i, hi', rfl⟩ := List.mem_map.1 hp
      obtain ⟨_, _, _, hok⟩ := hV i (by have := List.mem_range.1 hi'; omega)
      exact hok
end
end Go.Proofs.Ytlejnjgepnjceaa

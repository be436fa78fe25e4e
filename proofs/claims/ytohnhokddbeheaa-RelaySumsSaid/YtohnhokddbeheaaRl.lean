/-
relay: what a relay is; its cells, its block.
-/
import Derived.Test.YtohnhokddbeheaaTh2
namespace Go.Proofs.Ytohnhokddbeheaa
open Go.RowKit
set_option linter.unusedSimpArgs false
set_option linter.unusedVariables false
namespace Rl
open Tr
/-- A relay: its node, its tree, and of the node k + 1 how many came (2 k) and went (2 k + 1). -/
structure R where
  nd : Int
  t : Tv
  c : Nat → Nat
def crs (c : Nat → Nat) : List Value := (List.range 24).map fun i => .int .u64 (c i : Nat)
theorem crs_len (c : Nat → Nat) : (crs c).length = 24 := by simp [crs]
theorem crs_get (c : Nat → Nat) {i : Nat} (h : i < 24) : (crs c)[i]? = some (.int .u64 (c i : Nat)) := by
  unfold crs
  rw [List.getElem?_map, List.getElem?_range h]; rfl
theorem crs_one (c : Nat → Nat) : ∀ v ∈ crs c, v.oneCell' = true := by
  intro v hv
  unfold crs at hv
  obtain ⟨i, _, rfl⟩ := List.mem_map.1 hv
  rfl
theorem crs_zero : crs (fun _ => 0) = List.replicate 24 (.int .u64 0) := by unfold crs; rfl
attribute [irreducible] crs
def R.cells (x : R) : List Value := [.int .i64 x.nd] ++ x.t.cells ++ crs x.c
theorem r_len (x : R) : x.cells.length = 38 := by unfold R.cells; rw [List.length_append, List.length_append, tv_len, crs_len]; rfl
theorem r_0 (x : R) : x.cells[0]? = some (.int .i64 x.nd) := by unfold R.cells; rfl
theorem r_t (x : R) {i : Nat} (h : i < 13) : x.cells[1 + i]? = x.t.cells[i]? := by
  unfold R.cells
  rw [List.getElem?_append_left (by rw [List.length_append, tv_len]; (try simp); (try omega)), List.getElem?_append_right (by simp)]
  congr 1
  simp
theorem r_c (x : R) {i : Nat} (h : i < 24) : x.cells[14 + i]? = some (.int .u64 (x.c i : Nat)) := by
  unfold R.cells
  rw [List.getElem?_append_right (by rw [List.length_append, tv_len]; (try simp); (try omega)), List.length_append, tv_len, show 14 + i - ([Value.int .i64 x.nd].length + 13) = i by (try simp); (try omega), crs_get _ h]
theorem r_one (x : R) : ∀ v ∈ x.cells, v.oneCell' = true := by
  intro v hv
  unfold R.cells at hv
  rcases List.mem_append.1 hv with h | h
  · rcases List.mem_append.1 h with h | h
    · simp at h; subst h; rfl
    · exact tv_ones _ v h
  · exact crs_one _ v h
def R.put (x : R) (i v : Nat) : R := { x with c := fun j => if j = i then v else x.c j }
theorem r_at (x : R) {i : Nat} (h : i < 38) : x.cells[i]? = if i = 0 then some (.int .i64 x.nd) else if i < 14 then x.t.cells[i - 1]? else some (.int .u64 (x.c (i - 14) : Nat)) := by
  by_cases h0 : i = 0
  · subst h0; rw [if_pos rfl, r_0]
  · rw [if_neg h0]
    by_cases h1 : i < 14
    · rw [if_pos h1, ← r_t x (i := i - 1) (by omega), show 1 + (i - 1) = i by omega]
    · rw [if_neg h1, ← r_c x (i := i - 14) (by omega), show 14 + (i - 14) = i by omega]
theorem r_put (x : R) {i : Nat} (hi : i < 24) (v : Nat) : x.cells.set (14 + i) (.int .u64 (v : Nat)) = (x.put i v).cells := by
  apply List.ext_getElem?
  intro j
  rw [List.getElem?_set, r_len]
  by_cases hj : j < 38
  · rw [r_at _ hj, r_at _ hj]
    by_cases h : 14 + i = j
    · rw [if_pos h, if_pos (by omega), if_neg (by omega), if_neg (by omega)]
      show _ = some (Value.int .u64 ((if j - 14 = i then v else _ : Nat) : Nat))
      rw [if_pos (by omega)]
    · rw [if_neg h]
      by_cases h0 : j = 0
      · rw [if_pos h0, if_pos h0]; rfl
      · rw [if_neg h0, if_neg h0]
        by_cases h1 : j < 14
        · rw [if_pos h1, if_pos h1]; rfl
        · rw [if_neg h1, if_neg h1]
          show _ = some (Value.int .u64 ((if j - 14 = i then v else _ : Nat) : Nat))
          rw [if_neg (by omega)]
  · rw [List.getElem?_eq_none (by rw [r_len]; omega), List.getElem?_eq_none (by rw [r_len]; omega), if_neg (by omega)]
attribute [irreducible] R.cells
theorem rinfo (x : R) : (Try.prog.info? 68).map (·.size) = some x.cells.length := by rw [r_len]; kernel_rfl
theorem rinfoA (x : R) : (Try.prog.info? 68).map (·.size) = some x.cells.toArray.size := by rw [List.size_toArray, r_len]; kernel_rfl
theorem ciinfo (a b : Value) : (Try.prog.info? 65).map (·.size) = some [a, b].length := by kernel_rfl
/-- Block d is a relay, laid at B or behind it; its tree's edges lie before it. -/
def RP (W : World) (B d : Nat) (x : R) : Prop := Blk W d 68 x.cells.toArray ∧ B ≤ d ∧ RowsOf ec 2 W x.t.A x.t.es ∧ ∀ a, x.t.A = some a → a.block ≠ d
section
variable {W W' : World} {B d : Nat} {x : R}
theorem RP.lt (h : RP W B d x) : d < W.heap.size := h.1.lt
theorem RP.next (h : RP W B d x) (hb : Below W.heap.size W W') : RP W' B d x := ⟨h.1.next hb, h.2.1, h.2.2.1.next hb, h.2.2.2⟩
theorem RP.rows (h : RP W B d x) : RowsOf ec 2 W x.t.A x.t.es := h.2.2.1
theorem RP.cell (h : RP W B d x) (i : Nat) : W.cell? ⟨d, i, none⟩ = x.cells[i]? := by rw [h.1.cell, List.getElem?_toArray]
theorem RP.c0 (h : RP W B d x) : W.cell? ⟨d, 0, none⟩ = some (.int .i64 x.nd) := (h.cell 0).trans (r_0 x)
theorem RP.cc (h : RP W B d x) {i : Nat} (hi : i < 24) : W.cell? ⟨d, 14 + i, none⟩ = some (.int .u64 (x.c i : Nat)) := (h.cell _).trans (r_c x hi)
theorem RP.tr (h : RP W B d x) : W.rangeAt d 1 x.t.cells := fun j u hj => by
  have hj2 : j < 13 := by have := (List.getElem?_eq_some_iff.1 hj).1; rwa [tv_len] at this
  rw [h.cell, r_t x hj2, hj]
theorem RP.cu (h : RP W B d x) {k : Nat} (hk : k < 12) : W.rangeAt d (14 + k * 2) [.int .u64 (x.c (k * 2) : Nat), .int .u64 (x.c (k * 2 + 1) : Nat)] := fun j u hj => by
  match j, hj with
  | 0, hj => rw [show 14 + k * 2 + 0 = 14 + k * 2 by omega, h.cc (by omega), ← hj]; rfl
  | 1, hj => rw [show 14 + k * 2 + 1 = 14 + (k * 2 + 1) by omega, h.cc (by omega), ← hj]; rfl
theorem RP.put (h : RP W B d x) {i : Nat} (hi : i < 24) (v : Nat) : RP (W.setCell ⟨d, 14 + i, none⟩ (.int .u64 (v : Nat))) B d (x.put i v) := by
  have h1 := h.1.setCell (14 + i) (.int .u64 (v : Nat))
  rw [List.setIfInBounds_toArray, r_put x hi] at h1
  refine ⟨h1, h.2.1, ?_, h.2.2.2⟩
  show RowsOf ec 2 _ x.t.A x.t.es
  rcases h.2.2.1 with e | ⟨b, o, e, hb, hr⟩
  · exact .inl e
  · have hne : b ≠ d := h.2.2.2 _ e
    refine .inr ⟨b, o, e, by simpa [World.setCell] using hb, fun i hi j u hj => ?_⟩
    have := hr i hi j u hj
    rw [World.cell?_setCell_far _ _ _ _ (fun e => hne e.symm)]
    exact this
end
end Rl
end Go.Proofs.Ytohnhokddbeheaa

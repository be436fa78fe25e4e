/-
cuts: stances, cuts, tables; New, made, full, next, Other, Last, Own.
-/
import Derived.Test.YtbnapbjmffajfaaTurn
import Derived.Test.YtbnapbjmffajfaaCmp
import Derived.Test.YtbnapbjmffajfaaTree
import Derived.Test.YtbnapbjmffajfaaStore
import Derived.Test.YtbnapbjmffajfaaEqv
import Derived.Laws.MakeOwn
import Derived.Lib.SliceRun
namespace Go.Proofs.Ytbnapbjmffajfaa
open Go.RowKit
set_option linter.unusedSimpArgs false
set_option linter.unusedVariables false

/-- A stance. -/
structure St where
  h : Bool
  t : Nat
  f : Nat → Nat
def St.cells (s : St) : List Value := [.bool s.h, .int .u64 (s.t : Nat)] ++ vl s.f
/-- What a home said. -/
structure Sd where
  is : Bool
  s : St
def Sd.cells (x : Sd) : List Value := [.bool x.is] ++ x.s.cells
/-- A cut. -/
structure Ct where
  o : Int
  t : Nat
  f : Nat → Nat
def Ct.cells (c : Ct) : List Value := [.int .i64 c.o, .int .u64 (c.t : Nat)] ++ vl c.f
def St.zero : St := ⟨false, 0, fun _ => 0⟩
def Sd.zero : Sd := ⟨false, St.zero⟩
def Ct.zero : Ct := ⟨0, 0, fun _ => 0⟩
theorem st_len (s : St) : s.cells.length = 14 := by unfold St.cells; rw [List.length_append, vl_len]; rfl
theorem sd_len (x : Sd) : x.cells.length = 15 := by unfold Sd.cells; rw [List.length_append, st_len]; rfl
theorem ct_len (c : Ct) : c.cells.length = 14 := by unfold Ct.cells; rw [List.length_append, vl_len]; rfl
theorem st_0 (s : St) : s.cells[0]? = some (.bool s.h) := rfl
theorem st_1 (s : St) : s.cells[1]? = some (.int .u64 (s.t : Nat)) := rfl
theorem st_2 (s : St) (j : Nat) : s.cells[2 + j]? = (vl s.f)[j]? := by unfold St.cells; rw [List.getElem?_append_right (by simp)]; simp
theorem sd_0 (x : Sd) : x.cells[0]? = some (.bool x.is) := rfl
theorem sd_1 (x : Sd) (j : Nat) : x.cells[1 + j]? = x.s.cells[j]? := by unfold Sd.cells; rw [List.getElem?_append_right (by simp)]; simp
theorem ct_0 (c : Ct) : c.cells[0]? = some (.int .i64 c.o) := rfl
theorem ct_1 (c : Ct) : c.cells[1]? = some (.int .u64 (c.t : Nat)) := rfl
theorem ct_2 (c : Ct) (j : Nat) : c.cells[2 + j]? = (vl c.f)[j]? := by unfold Ct.cells; rw [List.getElem?_append_right (by simp)]; simp
theorem st_ones (s : St) : ∀ v ∈ s.cells, v.oneCell' = true := by
  intro v hv
  unfold St.cells at hv
  simp only [List.mem_append, List.mem_cons, List.not_mem_nil, or_false] at hv
  rcases hv with (rfl | rfl) | hv
  · rfl
  · rfl
  · exact vl_one _ v hv
theorem sd_ones (x : Sd) : ∀ v ∈ x.cells, v.oneCell' = true := by
  intro v hv
  unfold Sd.cells at hv
  simp only [List.mem_append, List.mem_cons, List.not_mem_nil, or_false] at hv
  rcases hv with rfl | hv
  · rfl
  · exact st_ones _ v hv
theorem ct_ones (c : Ct) : ∀ v ∈ c.cells, v.oneCell' = true := by
  intro v hv
  unfold Ct.cells at hv
  simp only [List.mem_append, List.mem_cons, List.not_mem_nil, or_false] at hv
  rcases hv with (rfl | rfl) | hv
  · rfl
  · rfl
  · exact vl_one _ v hv
theorem st_one (s : St) : s.cells.toArray.all (·.oneCell') = true := all_oneCell_toArray (st_ones s)
theorem sd_one (x : Sd) : x.cells.toArray.all (·.oneCell') = true := all_oneCell_toArray (sd_ones x)
theorem ct_one (c : Ct) : c.cells.toArray.all (·.oneCell') = true := all_oneCell_toArray (ct_ones c)
theorem st_def (s : St) : s.cells.toArray = #[.bool s.h, .int .u64 (s.t : Nat)] ++ (vl s.f).toArray := by unfold St.cells; simp
theorem ct_def (c : Ct) : c.cells.toArray = #[.int .i64 c.o, .int .u64 (c.t : Nat)] ++ (vl c.f).toArray := by unfold Ct.cells; simp
theorem sd_def (x : Sd) : x.cells.toArray = #[.bool x.is] ++ x.s.cells.toArray := by unfold Sd.cells; simp
theorem st_inj {a b : St} (h : a.cells = b.cells) : a.h = b.h ∧ a.t = b.t ∧ vl a.f = vl b.f := by
  unfold St.cells at h
  simp at h
  exact ⟨h.1, by omega, h.2.2⟩
attribute [irreducible] St.cells Sd.cells Ct.cells
theorem stinfo (s : St) : (Try.prog.info? 39).map (·.size) = some s.cells.length := by rw [st_len]; kernel_rfl
theorem stinfoA (s : St) : (Try.prog.info? 39).map (·.size) = some s.cells.toArray.size := by rw [List.size_toArray, st_len]; kernel_rfl
theorem sdinfo (s : Sd) : (Try.prog.info? 61).map (·.size) = some s.cells.length := by rw [sd_len]; kernel_rfl
theorem sdinfoA (s : Sd) : (Try.prog.info? 61).map (·.size) = some s.cells.toArray.size := by rw [List.size_toArray, sd_len]; kernel_rfl
theorem ctinfo (s : Ct) : (Try.prog.info? 47).map (·.size) = some s.cells.length := by rw [ct_len]; kernel_rfl
theorem ctinfoA (s : Ct) : (Try.prog.info? 47).map (·.size) = some s.cells.toArray.size := by rw [List.size_toArray, ct_len]; kernel_rfl
/-- A table's cells. -/
def tcells (own other : Int) (v : Value) (a b : Sd) : List Value := [.int .i64 own, .int .i64 other, v] ++ a.cells ++ b.cells
section
variable {own other : Int} {v : Value} {a b : Sd}
theorem tc_len : (tcells own other v a b).length = 33 := by unfold tcells; simp [sd_len]
theorem tc_0 : (tcells own other v a b)[0]? = some (.int .i64 own) := rfl
theorem tc_1 : (tcells own other v a b)[1]? = some (.int .i64 other) := rfl
theorem tc_2 : (tcells own other v a b)[2]? = some v := rfl
theorem tc_3 (j : Nat) (hj : j < 15) : (tcells own other v a b)[3 + j]? = a.cells[j]? := by
  unfold tcells
  rw [List.getElem?_append_left (by simp [sd_len]; omega), List.getElem?_append_right (by simp)]
  simp
theorem tc_18 (j : Nat) : (tcells own other v a b)[18 + j]? = b.cells[j]? := by
  unfold tcells
  rw [List.getElem?_append_right (by simp [sd_len])]
  simp [sd_len]
end
attribute [irreducible] tcells
/-- Cuts in a row. -/
def cts (l : List Ct) : List Value := l.flatMap Ct.cells
theorem cts_len (l : List Ct) : (cts l).length = l.length * 14 := by
  induction l with
  | nil => rfl
  | cons x l ih => simp only [cts, List.flatMap_cons, List.length_append, List.length_cons] at ih ⊢; rw [ih, ct_len]; omega
theorem cts_ones (l : List Ct) : ∀ v ∈ cts l, v.oneCell' = true := by
  intro v hv
  obtain ⟨x, _, hx⟩ := List.mem_flatMap.1 hv
  exact ct_ones x v hx
theorem cts_get : ∀ (l : List Ct) (i : Nat) (x : Ct) (j : Nat), l[i]? = some x → j < 14 → (cts l)[14 * i + j]? = x.cells[j]?
  | [], i, x, j, h, _ => by simp at h
  | y :: l, 0, x, j, h, hj => by
    simp at h
    subst h
    simp only [cts, List.flatMap_cons, Nat.mul_zero, Nat.zero_add]
    rw [List.getElem?_append_left (by rw [ct_len]; exact hj)]
  | y :: l, i + 1, x, j, h, hj => by
    have := cts_get l i x j (by simpa using h) hj
    simp only [cts, List.flatMap_cons] at this ⊢
    rw [List.getElem?_append_right (by rw [ct_len]; omega), ct_len, show 14 * (i + 1) + j - 14 = 14 * i + j by omega]
    exact this
/-- Block t is a table. F: its blocks. -/
structure Tb (W : World) (B t : Nat) (F : Nat → Prop) (own other : Int) (v : Value) (cs : List Ct) (a b : Sd) : Prop where
  ft : F t
  fv : ∀ k, v.ownBlock = some k → F k
  blk : Blk W t 64 (tcells own other v a b).toArray
  row : W.ownsRow B 47 14 v cs.length (cts cs)
  low : ∀ k, F k → B ≤ k ∧ k < W.heap.size
section
variable {W W' : World} {B t : Nat} {F : Nat → Prop} {own other : Int} {v : Value} {cs : List Ct} {a b : Sd}
theorem Tb.keep (T : Tb W B t F own other v cs a b) (hk : ∀ k, F k → W'.heap[k]? = W.heap[k]?) (hs : W.heap.size ≤ W'.heap.size) : Tb W' B t F own other v cs a b :=
  ⟨T.ft, T.fv, (hk t T.ft).trans T.blk, ownG_keep T.row fun k e => hk k (T.fv k e), fun k hF => ⟨(T.low k hF).1, Nat.lt_of_lt_of_le (T.low k hF).2 hs⟩⟩
theorem Tb.next (T : Tb W B t F own other v cs a b) (hb : Below W.heap.size W W') : Tb W' B t F own other v cs a b := T.keep (fun k hF => hb.block k (T.low k hF).2) hb.size
theorem Turn.tb {B2 t2 : Nat} {G : Nat → Prop} (h : Turn B2 G W W') (T : Tb W B t F own other v cs a b) (hd : ∀ k, F k → ¬ G k) : Tb W' B t F own other v cs a b :=
  T.keep (fun k hF => h.2 k (T.low k hF).2 (hd k hF)) h.1.size
theorem Tb.cell (T : Tb W B t F own other v cs a b) (i : Nat) : W.cell? ⟨t, i, none⟩ = (tcells own other v a b)[i]? := by rw [T.blk.cell, List.getElem?_toArray]
theorem Tb.c0 (T : Tb W B t F own other v cs a b) : W.cell? ⟨t, 0, none⟩ = some (.int .i64 own) := (T.cell 0).trans tc_0
theorem Tb.c1 (T : Tb W B t F own other v cs a b) : W.cell? ⟨t, 1, none⟩ = some (.int .i64 other) := (T.cell 1).trans tc_1
theorem Tb.c2 (T : Tb W B t F own other v cs a b) : W.cell? ⟨t, 2, none⟩ = some v := (T.cell 2).trans tc_2
theorem Tb.c3 (T : Tb W B t F own other v cs a b) : W.cell? ⟨t, 3, none⟩ = some (.bool a.is) := (T.cell 3).trans ((tc_3 0 (by omega)).trans (sd_0 a))
theorem Tb.c18 (T : Tb W B t F own other v cs a b) : W.cell? ⟨t, 18, none⟩ = some (.bool b.is) := (T.cell 18).trans ((tc_18 0).trans (sd_0 b))
theorem Tb.r3 (T : Tb W B t F own other v cs a b) : W.rangeAt t 3 a.cells := fun j u hj => by
  have h := (List.getElem?_eq_some_iff.1 hj).1
  rw [sd_len] at h
  rw [T.cell, tc_3 j h, hj]
theorem Tb.r18 (T : Tb W B t F own other v cs a b) : W.rangeAt t 18 b.cells := fun j u hj => by rw [T.cell, tc_18, hj]
theorem Tb.r4 (T : Tb W B t F own other v cs a b) : W.rangeAt t 4 a.s.cells := fun j u hj => by
  have h := (List.getElem?_eq_some_iff.1 hj).1
  rw [st_len] at h
  rw [T.cell, show 4 + j = 3 + (1 + j) by omega, tc_3 _ (by omega), sd_1, hj]
end
end Go.Proofs.Ytbnapbjmffajfaa

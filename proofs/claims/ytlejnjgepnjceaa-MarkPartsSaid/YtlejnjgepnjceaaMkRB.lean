/-
Slices built of the document's marks.
-/
import Derived.Test.YtlejnjgepnjceaaMkRef2
namespace Go.Proofs.Ytlejnjgepnjceaa
open Go.RowKit
def rzmk : List Value := [.int .i64 0, .bool false, .int .u64 0]
def rzmks (n : Nat) : List Value := (List.replicate n rzmk).flatten
/-- The parts of a slice of marks. -/
def rmkParts : Nat → List Mk → List (Nat × Value)
  | _, [] => []
  | i, m :: l => (i, .agg m.rcells.toArray) :: rmkParts (i + 1) l
theorem rflat_len : ∀ (l : List Mk), (l.flatMap Mk.rcells).length = l.length * 3
  | [] => rfl
  | m :: l => by rw [List.flatMap_cons, List.length_append, rmk_len, rflat_len l, List.length_cons]; omega
theorem rfill_mks : ∀ (l pre : List Mk), Instr.fill (fun i => some (i * 3, 3)) (pre.flatMap Mk.rcells ++ rzmks l.length).toArray (rmkParts pre.length l) = some ((pre ++ l).flatMap Mk.rcells).toArray
  | [], pre => by simp [rzmks, rmkParts, Instr.fill]
  | m :: l, pre => by
    have h1 := Mkl.fill_one (place := fun i => some (i * 3, 3)) (i := pre.length) (off := pre.length * 3) (cs := m.rcells) (pre := pre.flatMap Mk.rcells) (mid := rzmk) (post := rzmks l.length) (rest := rmkParts (pre.length + 1) l) (by rw [rmk_len]) (rflat_len pre) (by rw [rmk_len]; rfl)
    have ih := rfill_mks l (pre ++ [m])
    rw [List.length_append, List.flatMap_append] at ih
    have e : rzmks (m :: l).length = rzmk ++ rzmks l.length := by unfold rzmks; rw [List.length_cons, List.replicate_succ, List.flatten_cons]
    show Instr.fill _ _ ((pre.length, .agg m.rcells.toArray) :: rmkParts (pre.length + 1) l) = _
    rw [e, h1]
    rw [show [m].flatMap Mk.rcells = m.rcells by simp, List.append_assoc] at ih
    rw [show pre.length + [m].length = pre.length + 1 from rfl] at ih
    rw [ih]
    simp
theorem rmk_sz3 : (Try.prog.info? 63).map (·.size) = some 3 := by kernel_rfl
theorem rrun_buildMks (l : List Mk) (n : Nat) (parts : Array (Nat × Value)) (hn : l.length = n) (h0 : 0 < n) (h9 : n ≤ 100) (hp : parts.toList = rmkParts 0 l) (hz : Array.map (fun x => rzmk[x % 3]?.getD default) (Array.range (n * 3)) = (rzmks n).toArray) (w : World) :
    (Instr.buildSlice 61 n parts).run Try.prog w = .ok (.slice (some ⟨w.heap.size, 0, none⟩) n n) (w.alloc (.cells (l.flatMap Mk.rcells).toArray 63)) := by
  have h3 := rfill_mks l []
  rw [List.flatMap_nil, List.nil_append, List.nil_append, List.length_nil, hn] at h3
  simp only [Instr.buildSlice, Sem.run_bind, run_underlying Try.underlying61, Result.andThen_ok, Mkl.run_sizeOf rmk_sz3]
  simp [Value.cells, hp, newRow]
  rw [if_neg (by omega), if_neg (by omega)]
  have hz' : Array.map (fun x => [Value.int IntKind.i64 0, Value.bool false, Value.int IntKind.u64 0][x % 3]?.getD default) (Array.range (n * 3)) = (rzmks n).toArray := hz
  rw [hz', h3]
  simp
theorem rzmks_1 : Array.map (fun x => rzmk[x % 3]?.getD default) (Array.range (1 * 3)) = (rzmks 1).toArray := by apply Array.ext'; simp [List.range_eq_range', List.range', rzmk, rzmks]
theorem rzmks_2 : Array.map (fun x => rzmk[x % 3]?.getD default) (Array.range (2 * 3)) = (rzmks 2).toArray := by apply Array.ext'; simp [List.range_eq_range', List.range', rzmk, rzmks]
theorem rzmks_3 : Array.map (fun x => rzmk[x % 3]?.getD default) (Array.range (3 * 3)) = (rzmks 3).toArray := by apply Array.ext'; simp [List.range_eq_range', List.range', rzmk, rzmks]
theorem rzmks_4 : Array.map (fun x => rzmk[x % 3]?.getD default) (Array.range (4 * 3)) = (rzmks 4).toArray := by apply Array.ext'; simp [List.range_eq_range', List.range', rzmk, rzmks]
theorem rstep_buildMks {ops : Array Oper} {o : Oper} {a : Act} {w : World} {K : Act → World → Prop} {Q : Exit → Act → World → Prop} {E : Prop} (l : List Mk) (n : Nat) (parts : Array (Nat × Operand)) (hw : Region.wanted o (yielded ops a.tmps) = true)
    (ho : o.op = .buildSlice 61 n parts) (hn : l.length = n) (h0 : 0 < n) (h9 : n ≤ 100) (hz : Array.map (fun x => rzmk[x % 3]?.getD default) (Array.range (n * 3)) = (rzmks n).toArray) (hp : (parts.map fun x => (x.1, a.eval x.2)).toList = rmkParts 0 l)
    (h : K (a.put o.dst (.slice (some ⟨w.heap.size, 0, none⟩) n n)) (w.alloc (.cells (l.flatMap Mk.rcells).toArray 63))) : if Region.wanted o (yielded ops a.tmps) = true then Oper.wp Try.prog o a w K Q else E := by
  rw [if_pos hw]
  unfold Oper.wp execOp
  have hr := rrun_buildMks l n (parts.map fun x => (x.1, a.eval x.2)) hn h0 h9 hp hz w
  simp only [ho, Sem.run_bind, hr, Result.andThen_ok, Sem.run_pure]
  exact h
theorem rwpList_buildMks {ops : Array Oper} {rest : List Oper} {o : Oper} {a : Act} {w : World} {Q : Exit → Act → World → Prop} (l : List Mk) (n : Nat) (parts : Array (Nat × Operand)) (hw : Region.wanted o (yielded ops a.tmps) = true)
    (ho : o.op = .buildSlice 61 n parts) (hn : l.length = n) (h0 : 0 < n) (h9 : n ≤ 100) (hz : Array.map (fun x => rzmk[x % 3]?.getD default) (Array.range (n * 3)) = (rzmks n).toArray) (hp : (parts.map fun x => (x.1, a.eval x.2)).toList = rmkParts 0 l)
    (h : wpList Try.prog ops Q rest (a.put o.dst (.slice (some ⟨w.heap.size, 0, none⟩) n n)) (w.alloc (.cells (l.flatMap Mk.rcells).toArray 63))) : wpList Try.prog ops Q (o :: rest) a w :=
  wpList_step fun _ hK => rstep_buildMks l n parts hw ho hn h0 h9 hz hp (hK _ _ h)
/-- A row of marks that was built. -/
theorem rmks_new (w : World) (l : List Mk) : RMks (w.alloc (.cells (l.flatMap Mk.rcells).toArray 63)) (some ⟨w.heap.size, 0, none⟩) l := by
  refine Or.inr ⟨w.heap.size, 0, rfl, by simp, fun i hi j v hv => ?_⟩
  have hb := Blk.new w 63 (l.flatMap Mk.rcells).toArray
  rw [hb.cell, List.getElem?_toArray]
  have key : ∀ (l : List Mk) (i : Nat) (hi : i < l.length), (l[i].rcells)[j]? = some v → (l.flatMap Mk.rcells)[0 + i * 3 + j]? = some v := by
    intro l
    induction l with
    | nil => intro i hi; simp at hi
    | cons m l ih =>
      intro i hi h
      have hj : j < 3 := by have := (List.getElem?_eq_some_iff.1 h).1; rwa [rmk_len] at this
      rw [List.flatMap_cons]
      cases i with
      | zero =>
        rw [List.getElem?_append_left (by rw [rmk_len]; omega)]
        simpa using h
      | succ i =>
        rw [List.getElem?_append_right (by rw [rmk_len]; omega), rmk_len]
        have := ih i (by simpa using hi) (by simpa using h)
        rw [← this]
        congr 1
        omega
  exact key l i hi hv

end Go.Proofs.Ytlejnjgepnjceaa

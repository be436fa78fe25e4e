/-
cuts: a table's cells written; a slice of one cut; the end of decide.
-/
import Derived.Test.YtbnapbjmffajfaaCu5
namespace Go.Proofs.Ytbnapbjmffajfaa
open Go.RowKit
set_option linter.unusedSimpArgs false
set_option linter.unusedVariables false

theorem tc_list (own other : Int) (v : Value) (a b : Sd) : tcells own other v a b = [.int .i64 own, .int .i64 other, v] ++ a.cells ++ b.cells := by unfold tcells; rfl
section
variable {W W' : World} {B t : Nat} {F : Nat → Prop} {own other : Int} {v : Value} {cs : List Ct} {a b : Sd}
theorem Tb.tne (T : Tb W B t F own other v cs a b) : v.ownBlock ≠ some t := fun e => own_ne T.row T.blk (by decide) e.symm
theorem Tb.write (T : Tb W B t F own other v cs a b) {a' b' : Sd} (hk : ∀ k, k ≠ t → W'.heap[k]? = W.heap[k]?) (hs : W'.heap.size = W.heap.size) (hb : Blk W' t 64 (tcells own other v a' b').toArray) : Tb W' B t F own other v cs a' b' :=
  ⟨T.ft, T.fv, hb, ownG_keep T.row fun k e => hk k (by rintro rfl; exact T.tne e), fun k hF => by rw [hs]; exact T.low k hF⟩
theorem Tb.setA (T : Tb W B t F own other v cs a b) (x : Sd) : Tb (W.setCells t 3 x.cells) B t F own other v cs x b := by
  refine T.write (fun k hk => setCells_other t _ _ _ k hk) (setCells_size t _ _ _) ?_
  have h := T.blk
  rw [tc_list] at h ⊢
  exact Blk.setMid x.cells [.int .i64 own, .int .i64 other, v] a.cells b.cells W h (by rw [sd_len, sd_len])
theorem Tb.setB (T : Tb W B t F own other v cs a b) (x : Sd) : Tb (W.setCells t 18 x.cells) B t F own other v cs a x := by
  refine T.write (fun k hk => setCells_other t _ _ _ k hk) (setCells_size t _ _ _) ?_
  have h := T.blk
  rw [tc_list, ← List.append_nil ([Value.int .i64 own, .int .i64 other, v] ++ a.cells ++ b.cells)] at h
  have := Blk.setMid x.cells ([.int .i64 own, .int .i64 other, v] ++ a.cells) b.cells [] W h (by rw [sd_len, sd_len])
  rw [show ([Value.int .i64 own, .int .i64 other, v] ++ a.cells).length = 18 by rw [List.length_append, sd_len]; rfl, List.append_nil] at this
  rw [tc_list]
  exact this
end
theorem zero_cut (w : World) : (zeroValue 47).run Try.prog w = .ok (.agg #[.int .i64 0, .int .u64 0, .int .u32 0, .int .u32 0, .int .u32 0, .int .u32 0, .int .u32 0, .int .u32 0, .int .u32 0, .int .u32 0, .int .u32 0, .int .u32 0, .int .u32 0, .int .u32 0]) w := by
  have := (zero_of_info (P := Try.prog) (t := 47) (v := .agg #[.int .i64 0, .int .u64 0, .int .u32 0, .int .u32 0, .int .u32 0, .int .u32 0, .int .u32 0, .int .u32 0, .int .u32 0, .int .u32 0, .int .u32 0, .int .u32 0, .int .u32 0, .int .u32 0]) (n := 14) (by kernel_rfl)).1 w
  exact this
theorem csize : (Try.prog.info? 47).map (·.size) = some 14 := by kernel_rfl
theorem zeros14 : Array.map (fun x => ([.int .i64 0, .int .u64 0, .int .u32 0, .int .u32 0, .int .u32 0, .int .u32 0, .int .u32 0, .int .u32 0, .int .u32 0, .int .u32 0, .int .u32 0, .int .u32 0, .int .u32 0, .int .u32 0] : List Value)[x % 14]?.getD default) (Array.range 14) = ([] ++ (Ct.zero.cells ++ [])).toArray := by
  rw [List.append_nil, List.nil_append, ct_zero]
  apply Array.ext'
  simp [List.range_eq_range', List.range']
theorem run_buildSlice1 (c : Ct) (w : World) :
    (Instr.buildSlice 36 1 #[(0, .agg c.cells.toArray)]).run Try.prog w = .ok (.slice (some ⟨w.heap.size, 0, none⟩) 1 1) (w.alloc (.cells c.cells.toArray 47)) := by
  have h1 := fill_one (place := fun i => some (i * 14, 14)) (i := 0) (off := 0) (cs := c.cells) (pre := []) (mid := Ct.zero.cells) (post := []) (rest := []) (by rw [ct_len]) rfl (by rw [ct_len, ct_len])
  have h3 : Instr.fill (fun i => some (i * 14, 14)) Ct.zero.cells.toArray [(0, .agg c.cells.toArray)] = some c.cells.toArray := by
    rw [List.nil_append, List.nil_append, List.append_nil, List.append_nil] at h1
    rw [h1, Instr.fill]
  simp only [Instr.buildSlice, Sem.run_bind, run_underlying Try.underlying36, Result.andThen_ok, run_sizeOf csize, zero_cut]
  simp [Value.cells, zeros14, h3, newRow]
theorem step_buildSlice1 {ops : Array Oper} {o : Oper} {a : Act} {w : World} {K : Act → World → Prop} {Q : Exit → Act → World → Prop} {E : Prop} {c : Ct} (hw : Region.wanted o (yielded ops a.tmps) = true) (x : Operand)
    (ho : o.op = .buildSlice 36 1 #[(0, x)]) (hx : a.eval x = .agg c.cells.toArray)
    (h : K (a.put o.dst (.slice (some ⟨w.heap.size, 0, none⟩) 1 1)) (w.alloc (.cells c.cells.toArray 47))) : if Region.wanted o (yielded ops a.tmps) = true then Oper.wp Try.prog o a w K Q else E := by
  rw [if_pos hw]
  unfold Oper.wp execOp
  simp only [ho, hx, List.map_toArray, List.map_cons, List.map_nil, Sem.run_bind, run_buildSlice1, Result.andThen_ok, Sem.run_pure]
  exact h
theorem sds_zero : (Sd.zero.cells ++ Sd.zero.cells).toArray = #[.bool false, .bool false, .int .u64 0, .int .u32 0, .int .u32 0, .int .u32 0, .int .u32 0, .int .u32 0, .int .u32 0, .int .u32 0, .int .u32 0, .int .u32 0, .int .u32 0, .int .u32 0, .int .u32 0, .bool false, .bool false, .int .u64 0, .int .u32 0, .int .u32 0, .int .u32 0, .int .u32 0, .int .u32 0, .int .u32 0, .int .u32 0, .int .u32 0, .int .u32 0, .int .u32 0, .int .u32 0, .int .u32 0] := by
  unfold Sd.cells Sd.zero St.cells St.zero vl
  rfl
theorem built_sds : Try.prog.built 62 [] = some (Sd.zero.cells ++ Sd.zero.cells).toArray := by rw [sds_zero]; kernel_rfl
theorem sds_len : (Sd.zero.cells ++ Sd.zero.cells).length = 30 := by rw [List.length_append, sd_len]
theorem sds_ones : (Sd.zero.cells ++ Sd.zero.cells).toArray.all (·.oneCell') = true := all_oneCell_toArray fun v hv => (List.mem_append.1 hv).elim (sd_ones _ v) (sd_ones _ v)
theorem sdsinfo : (Try.prog.info? 62).map (·.size) = some (Sd.zero.cells ++ Sd.zero.cells).toArray.size := by rw [List.size_toArray, sds_len]; kernel_rfl
/-- The end of a round that is decided. -/
theorem dec_end {W w5 w6 : World} {B t : Nat} {F : Nat → Prop} {own other : Int} {v v6 : Value} {cs : List Ct} {a b : Sd} {c : Ct} (T : Tb W B t F own other v cs a b) (hB5 : Below W.heap.size W w5)
    (hO6 : w6.ownsRow B 47 14 v6 (cs.length + 1) (cts cs ++ c.cells)) (hG6 : w5.grownBy w6 v.ownBlock) (hL6 : v6.ownBlock = v.ownBlock ∨ v6.ownBlock = some w5.heap.size) :
    Tb ((w6.setCell ⟨t, 2, none⟩ v6).setCells t 3 (Sd.zero.cells ++ Sd.zero.cells)) B t (Grow F W ((w6.setCell ⟨t, 2, none⟩ v6).setCells t 3 (Sd.zero.cells ++ Sd.zero.cells))) own other v6 (cs ++ [c]) Sd.zero Sd.zero ∧
      Turn B F W ((w6.setCell ⟨t, 2, none⟩ v6).setCells t 3 (Sd.zero.cells ++ Sd.zero.cells)) := by
  have hB := T.low t T.ft
  have T5 := T.next hB5
  have h5 := hB5.size
  have h6 := hG6.size
  have ht6 : Blk w6 t 64 (tcells own other v a b).toArray := (hG6.block t T5.blk.lt (fun e => T5.tne e.symm)).trans T5.blk
  obtain ⟨w8, hw8⟩ : ∃ w8, w8 = (w6.setCell ⟨t, 2, none⟩ v6).setCells t 3 (Sd.zero.cells ++ Sd.zero.cells) := ⟨_, rfl⟩
  have hs8 : w8.heap.size = w6.heap.size := by rw [hw8, setCells_size]; simp [World.setCell]
  have far : ∀ k, k ≠ t → w8.heap[k]? = w6.heap[k]? := fun k hk => by rw [hw8, setCells_other t _ _ _ k hk]; exact Below.heap_setCell w6 ⟨t, 2, none⟩ _ k hk
  have hb8 : Blk w8 t 64 (tcells own other v6 Sd.zero Sd.zero).toArray := by
    rw [hw8]
    have h1 := ht6.setCell 2 v6
    rw [tc_list] at h1
    have e1 : ([Value.int .i64 own, .int .i64 other, v] ++ a.cells ++ b.cells).toArray.setIfInBounds 2 v6 = ([Value.int .i64 own, .int .i64 other, v6] ++ (a.cells ++ b.cells) ++ []).toArray := by simp
    rw [e1] at h1
    have h2 := Blk.setMid (Sd.zero.cells ++ Sd.zero.cells) [Value.int .i64 own, .int .i64 other, v6] (a.cells ++ b.cells) [] _ h1 (by rw [sds_len, List.length_append, sd_len, sd_len])
    rw [tc_list, List.append_assoc]
    rw [List.append_nil] at h2
    exact h2
  have old : ∀ k, k < W.heap.size → ¬ F k → w8.heap[k]? = W.heap[k]? := fun k hk hF =>
    (far k (fun e => hF (e ▸ T.ft))).trans ((hG6.block k (by omega) (fun e => hF (T.fv k e.symm))).trans (hB5.block k hk))
  have hbel : Below B W w8 := by
    have h1 : Below B W w6 := (hB5.mono (by omega)).grown hG6 (by omega) (fun k e => (T.low k (T.fv k e)).1)
    rw [hw8]
    exact setCells_below hB.1 _ _ _ (h1.setCell (p := ⟨t, 2, none⟩) hB.1 v6)
  rw [← hw8]
  clear hw8
  refine ⟨⟨Or.inl T.ft, ?_, hb8, ?_, ?_⟩, hbel, old⟩
  · intro k hk
    rcases hL6 with e | e
    · exact Or.inl (T.fv k (e ▸ hk))
    · rw [e] at hk
      cases hk
      have := (hO6.lt _ e).2
      exact Or.inr ⟨by omega, by omega⟩
  · have e : cts (cs ++ [c]) = cts cs ++ c.cells := by simp [cts]
    rw [e, List.length_append]
    refine ownG_keep hO6 fun k hk => far k ?_
    rintro rfl
    exact own_ne hO6 ht6 (by decide) hk.symm
  · intro k hk
    rcases hk with hk | ⟨h1, h2⟩
    · have := T.low k hk; exact ⟨this.1, by omega⟩
    · exact ⟨by omega, h2⟩
end Go.Proofs.Ytbnapbjmffajfaa

/-
Marks: slices built of them; Flag, Covers.
-/
import Derived.Test.YtlejnjgepnjceaaMk
import Derived.Deep.CutRange
namespace Go.Proofs.Ytlejnjgepnjceaa
open Go.RowKit
attribute [local go_sem] Tot.run_store_float
namespace Mkl
theorem foldl_zip (cs : List Value) : ∀ (off j0 : Nat) (pre mid post : List Value), pre.length = off + j0 → mid.length = cs.length →
    (cs.zipIdx j0).foldl (fun acc (x : Value × Nat) => acc.setIfInBounds (off + x.2) x.1) (pre ++ (mid ++ post)).toArray = (pre ++ (cs ++ post)).toArray := by
  induction cs with
  | nil =>
    intro off j0 pre mid post _ hm
    obtain rfl := List.eq_nil_of_length_eq_zero hm
    rfl
  | cons c cs ih =>
    intro off j0 pre mid post hp hm
    match mid, hm with
    | m :: mid, hm =>
      rw [List.zipIdx_cons, List.foldl_cons]
      have e : ((pre ++ (m :: mid ++ post)).toArray.setIfInBounds (off + j0) c) = ((pre ++ [c]) ++ (mid ++ post)).toArray := by
        rw [List.setIfInBounds_toArray, ← hp]
        congr 1
        simp
      show List.foldl _ ((pre ++ (m :: mid ++ post)).toArray.setIfInBounds (off + j0) c) _ = _
      rw [e, ih off (j0 + 1) (pre ++ [c]) mid post (by simp; omega) (by simpa using hm)]
      simp
theorem fill_one {place : Nat → Option (Nat × Nat)} {i off : Nat} {cs pre mid post : List Value} {rest : List (Nat × Value)} (h : place i = some (off, cs.length)) (hp : pre.length = off) (hm : mid.length = cs.length) :
    Instr.fill place (pre ++ (mid ++ post)).toArray ((i, .agg cs.toArray) :: rest) = Instr.fill place (pre ++ (cs ++ post)).toArray rest := by
  have hz : ((Value.agg cs.toArray).cells.zipIdx.foldl (fun cs' (x : Value × Nat) => cs'.setIfInBounds (off + x.2) x.1) (pre ++ (mid ++ post)).toArray) = (pre ++ (cs ++ post)).toArray := by
    show (cs.toArray.zipIdx.foldl _ _) = _
    rw [← Array.foldl_toList]
    simp only [Array.toList_zipIdx]
    exact foldl_zip cs off 0 pre mid post (by omega) hm
  have hs : ¬ ((Value.agg cs.toArray).cells.size ≠ cs.length || decide (off + (Value.agg cs.toArray).cells.size > (pre ++ (mid ++ post)).toArray.size)) = true := by
    simp [Value.cells]; omega
  rw [Instr.fill, h]
  dsimp only
  rw [if_neg hs, hz]
theorem run_sizeOf {P : Program} {t : TypeId} {n : Nat} (h : (P.info? t).map (·.size) = some n) (w : World) : (sizeOf t).run P w = .ok n w := by
  cases hq : P.info? t with
  | none => simp [hq] at h
  | some i => simp [hq] at h; simp [sizeOf, typeInfo, hq, h]
end Mkl
def zmk : List Value := [.int .i64 0, .bool false, .float .f64 0]
def zmks (n : Nat) : List Value := (List.replicate n zmk).flatten
/-- The parts of a slice of marks. -/
def mkParts : Nat → List Mk → List (Nat × Value)
  | _, [] => []
  | i, m :: l => (i, .agg m.cells.toArray) :: mkParts (i + 1) l
theorem flat_len : ∀ (l : List Mk), (l.flatMap Mk.cells).length = l.length * 3
  | [] => rfl
  | m :: l => by rw [List.flatMap_cons, List.length_append, mk_len, flat_len l, List.length_cons]; omega
theorem fill_mks : ∀ (l pre : List Mk), Instr.fill (fun i => some (i * 3, 3)) (pre.flatMap Mk.cells ++ zmks l.length).toArray (mkParts pre.length l) = some ((pre ++ l).flatMap Mk.cells).toArray
  | [], pre => by simp [zmks, mkParts, Instr.fill]
  | m :: l, pre => by
    have h1 := Mkl.fill_one (place := fun i => some (i * 3, 3)) (i := pre.length) (off := pre.length * 3) (cs := m.cells) (pre := pre.flatMap Mk.cells) (mid := zmk) (post := zmks l.length) (rest := mkParts (pre.length + 1) l) (by rw [mk_len]) (flat_len pre) (by rw [mk_len]; rfl)
    have ih := fill_mks l (pre ++ [m])
    rw [List.length_append, List.flatMap_append] at ih
    have e : zmks (m :: l).length = zmk ++ zmks l.length := by unfold zmks; rw [List.length_cons, List.replicate_succ, List.flatten_cons]
    show Instr.fill _ _ ((pre.length, .agg m.cells.toArray) :: mkParts (pre.length + 1) l) = _
    rw [e, h1]
    rw [show [m].flatMap Mk.cells = m.cells by simp, List.append_assoc] at ih
    rw [show pre.length + [m].length = pre.length + 1 from rfl] at ih
    rw [ih]
    simp
theorem mk_sz3 : (Try.prog.info? 65).map (·.size) = some 3 := by kernel_rfl
theorem run_buildMks (l : List Mk) (n : Nat) (parts : Array (Nat × Value)) (hn : l.length = n) (h0 : 0 < n) (h9 : n ≤ 100) (hp : parts.toList = mkParts 0 l) (hz : Array.map (fun x => zmk[x % 3]?.getD default) (Array.range (n * 3)) = (zmks n).toArray) (w : World) :
    (Instr.buildSlice 71 n parts).run Try.prog w = .ok (.slice (some ⟨w.heap.size, 0, none⟩) n n) (w.alloc (.cells (l.flatMap Mk.cells).toArray 65)) := by
  have h3 := fill_mks l []
  rw [List.flatMap_nil, List.nil_append, List.nil_append, List.length_nil, hn] at h3
  simp only [Instr.buildSlice, Sem.run_bind, run_underlying Try.underlying71, Result.andThen_ok, Mkl.run_sizeOf mk_sz3]
  simp [Value.cells, hp, newRow]
  rw [if_neg (by omega), if_neg (by omega)]
  have hz' : Array.map (fun x => [Value.int IntKind.i64 0, Value.bool false, Value.float FloatKind.f64 0][x % 3]?.getD default) (Array.range (n * 3)) = (zmks n).toArray := hz
  rw [hz', h3]
  simp
theorem zmks_1 : Array.map (fun x => zmk[x % 3]?.getD default) (Array.range (1 * 3)) = (zmks 1).toArray := by apply Array.ext'; simp [List.range_eq_range', List.range', zmk, zmks]
theorem zmks_2 : Array.map (fun x => zmk[x % 3]?.getD default) (Array.range (2 * 3)) = (zmks 2).toArray := by apply Array.ext'; simp [List.range_eq_range', List.range', zmk, zmks]
theorem zmks_3 : Array.map (fun x => zmk[x % 3]?.getD default) (Array.range (3 * 3)) = (zmks 3).toArray := by apply Array.ext'; simp [List.range_eq_range', List.range', zmk, zmks]
theorem zmks_4 : Array.map (fun x => zmk[x % 3]?.getD default) (Array.range (4 * 3)) = (zmks 4).toArray := by apply Array.ext'; simp [List.range_eq_range', List.range', zmk, zmks]
theorem step_buildMks {ops : Array Oper} {o : Oper} {a : Act} {w : World} {K : Act → World → Prop} {Q : Exit → Act → World → Prop} {E : Prop} (l : List Mk) (n : Nat) (parts : Array (Nat × Operand)) (hw : Region.wanted o (yielded ops a.tmps) = true)
    (ho : o.op = .buildSlice 71 n parts) (hn : l.length = n) (h0 : 0 < n) (h9 : n ≤ 100) (hz : Array.map (fun x => zmk[x % 3]?.getD default) (Array.range (n * 3)) = (zmks n).toArray) (hp : (parts.map fun x => (x.1, a.eval x.2)).toList = mkParts 0 l)
    (h : K (a.put o.dst (.slice (some ⟨w.heap.size, 0, none⟩) n n)) (w.alloc (.cells (l.flatMap Mk.cells).toArray 65))) : if Region.wanted o (yielded ops a.tmps) = true then Oper.wp Try.prog o a w K Q else E := by
  rw [if_pos hw]
  unfold Oper.wp execOp
  have hr := run_buildMks l n (parts.map fun x => (x.1, a.eval x.2)) hn h0 h9 hp hz w
  simp only [ho, Sem.run_bind, hr, Result.andThen_ok, Sem.run_pure]
  exact h
theorem wpList_buildMks {ops : Array Oper} {rest : List Oper} {o : Oper} {a : Act} {w : World} {Q : Exit → Act → World → Prop} (l : List Mk) (n : Nat) (parts : Array (Nat × Operand)) (hw : Region.wanted o (yielded ops a.tmps) = true)
    (ho : o.op = .buildSlice 71 n parts) (hn : l.length = n) (h0 : 0 < n) (h9 : n ≤ 100) (hz : Array.map (fun x => zmk[x % 3]?.getD default) (Array.range (n * 3)) = (zmks n).toArray) (hp : (parts.map fun x => (x.1, a.eval x.2)).toList = mkParts 0 l)
    (h : wpList Try.prog ops Q rest (a.put o.dst (.slice (some ⟨w.heap.size, 0, none⟩) n n)) (w.alloc (.cells (l.flatMap Mk.cells).toArray 65))) : wpList Try.prog ops Q (o :: rest) a w :=
  wpList_step fun _ hK => step_buildMks l n parts hw ho hn h0 h9 hz hp (hK _ _ h)
/-- A row of marks that was built. -/
theorem mks_new (w : World) (l : List Mk) : Mks (w.alloc (.cells (l.flatMap Mk.cells).toArray 65)) (some ⟨w.heap.size, 0, none⟩) l := by
  refine Or.inr ⟨w.heap.size, 0, rfl, by simp, fun i hi j v hv => ?_⟩
  have hb := Blk.new w 65 (l.flatMap Mk.cells).toArray
  rw [hb.cell, List.getElem?_toArray]
  have key : ∀ (l : List Mk) (i : Nat) (hi : i < l.length), (l[i].cells)[j]? = some v → (l.flatMap Mk.cells)[0 + i * 3 + j]? = some v := by
    intro l
    induction l with
    | nil => intro i hi; simp at hi
    | cons m l ih =>
      intro i hi h
      have hj : j < 3 := by have := (List.getElem?_eq_some_iff.1 h).1; rwa [mk_len] at this
      rw [List.flatMap_cons]
      cases i with
      | zero =>
        rw [List.getElem?_append_left (by rw [mk_len]; omega)]
        simpa using h
      | succ i =>
        rw [List.getElem?_append_right (by rw [mk_len]; omega), mk_len]
        have := ih i (by simpa using hi) (by simpa using h)
        rw [← this]
        congr 1
        omega
  exact key l i hi hv

/-- A mark with a flag alone. -/
def flagM (n : Int) : Mk := joinM [⟨n, false, 0⟩]
set_option maxRecDepth 20000 in
set_option maxHeartbeats 4000000 in
theorem flag_any (n : Int) (W : World) : Calls Try.prog 37 #[.int .i64 n] W fun e W' => e = .returned (.agg (flagM n).cells.toArray) ∧ Below W.heap.size W W' := by
  have hb0 := Blk.new W 65 #[.int .i64 0, .bool false, .float .f64 0]
  have hbl := (Below.refl W.heap.size W).alloc (Nat.le_refl _) (.cells #[.int .i64 0, .bool false, .float .f64 0] 65)
  obtain ⟨W1, hw⟩ : ∃ W1, W1 = W.alloc (.cells #[.int .i64 0, .bool false, .float .f64 0] 65) := ⟨_, rfl⟩
  have HW := Lib.hid hw
  rw [← hw] at hb0 hbl
  have HB0 := Lib.hid hb0
  have HBL := Lib.hid hbl
  clear hw hb0 hbl
  go_enter Try.func37, Try.ntmps37
  go_upto_region 1 with fail
  rw [← HW.out]
  go_wp2_with fail
  have hr := mks_new W1 [⟨n, false, 0⟩]
  have hb1 := (Below.refl W1.heap.size W1).alloc (Nat.le_refl _) (.cells ([(⟨n, false, 0⟩ : Mk)].flatMap Mk.cells).toArray 65)
  have e : ([(⟨n, false, 0⟩ : Mk)].flatMap Mk.cells).toArray = #[.int .i64 n, .bool false, .float .f64 0] := by simp [mk_def]
  rw [e] at hr hb1
  refine (mjoin_any _ 1 1 [⟨n, false, 0⟩] _ rfl (by decide) hr (by simp)).mono ?_
  rintro e W2 ⟨rfl, hb2⟩
  have hb := hb1.trans (hb2.mono hb1.size)
  have bg := HB0.out.next hb
  have HB2 := Lib.hid (HBL.out.trans (hb.mono HBL.out.size))
  rw [show joinM [⟨n, false, 0⟩] = flagM n from rfl]
  clear hr hb1 hb2 hb HB0 HBL HW
  go_wp2_with (first | (refine wpList_store_blk rfl 65 _ _ rfl W.heap.size 65 _ (flagM n).cells.toArray rfl rfl bg (mkinfoA _) (mk_siz _) (mk_one _) ?_; intro hrow))
  exact bodyPost_row (t := 65) (flagM n).cells.toArray rfl rfl rfl Try.underlying65 rfl (mkinfoA _) hrow ⟨rfl, below_setRow HB2.out (Nat.le_refl _) _⟩

/-- Does a mark cover another one? -/
def coversM (a b : Mk) : Bool := rightM a && (rightM b && sameM (joinM [a, b]) a)
set_option maxRecDepth 20000 in
set_option maxHeartbeats 4000000 in
theorem mcovers_any (a b : Mk) (ha : a.p < 18446744073709551616) (hb : b.p < 18446744073709551616) (W : World) : Calls Try.prog 40 #[.agg a.cells.toArray, .agg b.cells.toArray] W fun e W' => e = .returned (.bool (coversM a b)) ∧ Below W.heap.size W W' := by
  have hsz : (W.alloc (.cells a.cells.toArray 65)).heap.size = W.heap.size + 1 := by simp
  have bA := (Blk.new W 65 a.cells.toArray).alloc (.cells b.cells.toArray 65)
  have bB := Blk.new (W.alloc (.cells a.cells.toArray 65)) 65 b.cells.toArray
  rw [hsz] at bB
  have hB0 := ((Below.refl W.heap.size W).alloc (Nat.le_refl _) (.cells a.cells.toArray 65)).alloc (by rw [hsz]; omega) (.cells b.cells.toArray 65)
  clear hsz
  have HRA := Lib.hid (mright_any a)
  have HRB := Lib.hid (mright_any b)
  have HP := Lib.hid (show ∀ m ∈ [a, b], m.p < 18446744073709551616 by intro m hm; simp at hm; rcases hm with rfl | rfl <;> assumption)
  clear ha hb
  go_enter Try.func40, Try.ntmps40
  go_upto_region 1 with fail
  obtain ⟨W1, hw⟩ : ∃ W1, W1 = (W.alloc (.cells a.cells.toArray 65)).alloc (.cells b.cells.toArray 65) := ⟨_, rfl⟩
  rw [← hw] at bA bB hB0 ⊢
  have HB0 := Lib.hid hB0
  have ra := bA.range
  have rb := bB.range
  clear hw bA bB hB0
  cases hra : rightM a with
  | false =>
    rw [hra] at HRA
    have HC := Lib.hid (show coversM a b = false by unfold coversM; rw [hra]; rfl)
    clear hra
    refine wp_region_tree (S := (fun W' => Below (W1).heap.size W1 W')) (.take 0 (.one 1 (.take 2 (.take 3 (.one 4 (.take 5 (.take 6 (.take 7 (.take 8 (.take 11 (.one 9 (.one 10 (.one 12 (.take 13 (.take 14 .nil))))))))))))))) 9999 (by kernel_rfl) (by kernel_rfl) (by kernel_rfl) (by kernel_rfl) (by kernel_rfl) (fun _ _ d _ _ h => by cases d <;> exact h) ?_ (fun hHeld => ?_); (focus (exact (Below.refl _ _).drew)); simp only [Tree.map, List.getElem?_toArray, List.getElem?_cons_zero, List.getElem?_cons_succ]
    (repeat (first | (refine wpTree.take (v := undef) (Or.inr ⟨by rfl, rfl⟩) ?_; simp only [Act.put, List.setIfInBounds_toArray, List.set_cons_zero, List.set_cons_succ]) | (refine wpTree.take (v := .agg (Mk.cells ?_).toArray) (yieldsIf_load_mid rfl 65 _ rfl _ _ rfl (Mk.cells _) _ ?_ Try.underlying65 rfl (mkinfo _)) ?_; rotate_left; (focus (intro _ hS; refine mrange_next hS ?_; assumption)); simp only [Act.put, List.setIfInBounds_toArray, List.set_cons_zero, List.set_cons_succ]) | (refine wpTree.take (v := ?_) (Or.inl ⟨by rfl, ?_⟩) ?_; rotate_left; (focus (intro _ hS; (try dsimp only at hS); go_split_ands; (try subst hS); go_simp; (try (with_reducible rfl)); done)); simp only [Act.put, List.setIfInBounds_toArray, List.set_cons_zero, List.set_cons_succ])))
    refine wpTree.one (fun K hK => ?_)
    go_simp
    go_at_call 35
    refine (HRA.out _).mono ?_
    rintro e W2 ⟨rfl, hbW2⟩
    have hBelow := Below.trans hHeld (hbW2.mono (Below.size hHeld))
    refine hK.out _ _ hBelow (fun hHeld' => ?_)
    clear hK K hHeld hbW2 hBelow
    have hHeld := hHeld'
    clear hHeld'
    (repeat (first | (refine wpTree.take (v := undef) (Or.inr ⟨by rfl, rfl⟩) ?_; simp only [Act.put, List.setIfInBounds_toArray, List.set_cons_zero, List.set_cons_succ]) | (refine wpTree.take (v := .agg (Mk.cells ?_).toArray) (yieldsIf_load_mid rfl 65 _ rfl _ _ rfl (Mk.cells _) _ ?_ Try.underlying65 rfl (mkinfo _)) ?_; rotate_left; (focus (intro _ hS; refine mrange_next hS ?_; assumption)); simp only [Act.put, List.setIfInBounds_toArray, List.set_cons_zero, List.set_cons_succ]) | (refine wpTree.take (v := ?_) (Or.inl ⟨by rfl, ?_⟩) ?_; rotate_left; (focus (intro _ hS; (try dsimp only at hS); go_split_ands; (try subst hS); go_simp; (try (with_reducible rfl)); done)); simp only [Act.put, List.setIfInBounds_toArray, List.set_cons_zero, List.set_cons_succ])))
    refine wpTree.one (fun K hK => ?_)
    go_simp
    refine hK.out _ _ hHeld (fun _ => ?_)
    clear hK K
    (repeat (first | (refine wpTree.take (v := undef) (Or.inr ⟨by rfl, rfl⟩) ?_; simp only [Act.put, List.setIfInBounds_toArray, List.set_cons_zero, List.set_cons_succ]) | (refine wpTree.take (v := .agg (Mk.cells ?_).toArray) (yieldsIf_load_mid rfl 65 _ rfl _ _ rfl (Mk.cells _) _ ?_ Try.underlying65 rfl (mkinfo _)) ?_; rotate_left; (focus (intro _ hS; refine mrange_next hS ?_; assumption)); simp only [Act.put, List.setIfInBounds_toArray, List.set_cons_zero, List.set_cons_succ]) | (refine wpTree.take (v := ?_) (Or.inl ⟨by rfl, ?_⟩) ?_; rotate_left; (focus (intro _ hS; (try dsimp only at hS); go_split_ands; (try subst hS); go_simp; (try (with_reducible rfl)); done)); simp only [Act.put, List.setIfInBounds_toArray, List.set_cons_zero, List.set_cons_succ])))
    refine wpTree.one (fun K hK => ?_)
    go_simp
    refine hK.out _ _ hHeld (fun _ => ?_)
    clear hK K
    (repeat (first | (refine wpTree.take (v := undef) (Or.inr ⟨by rfl, rfl⟩) ?_; simp only [Act.put, List.setIfInBounds_toArray, List.set_cons_zero, List.set_cons_succ]) | (refine wpTree.take (v := .agg (Mk.cells ?_).toArray) (yieldsIf_load_mid rfl 65 _ rfl _ _ rfl (Mk.cells _) _ ?_ Try.underlying65 rfl (mkinfo _)) ?_; rotate_left; (focus (intro _ hS; refine mrange_next hS ?_; assumption)); simp only [Act.put, List.setIfInBounds_toArray, List.set_cons_zero, List.set_cons_succ]) | (refine wpTree.take (v := ?_) (Or.inl ⟨by rfl, ?_⟩) ?_; rotate_left; (focus (intro _ hS; (try dsimp only at hS); go_split_ands; (try subst hS); go_simp; (try (with_reducible rfl)); done)); simp only [Act.put, List.setIfInBounds_toArray, List.set_cons_zero, List.set_cons_succ])))
    refine wpTree.one (fun K hK => ?_)
    go_simp
    refine hK.out _ _ hHeld (fun _ => ?_)
    clear hK K
    (repeat (first | (refine wpTree.take (v := undef) (Or.inr ⟨by rfl, rfl⟩) ?_; simp only [Act.put, List.setIfInBounds_toArray, List.set_cons_zero, List.set_cons_succ]) | (refine wpTree.take (v := .agg (Mk.cells ?_).toArray) (yieldsIf_load_mid rfl 65 _ rfl _ _ rfl (Mk.cells _) _ ?_ Try.underlying65 rfl (mkinfo _)) ?_; rotate_left; (focus (intro _ hS; refine mrange_next hS ?_; assumption)); simp only [Act.put, List.setIfInBounds_toArray, List.set_cons_zero, List.set_cons_succ]) | (refine wpTree.take (v := ?_) (Or.inl ⟨by rfl, ?_⟩) ?_; rotate_left; (focus (intro _ hS; (try dsimp only at hS); go_split_ands; (try subst hS); go_simp; (try (with_reducible rfl)); done)); simp only [Act.put, List.setIfInBounds_toArray, List.set_cons_zero, List.set_cons_succ])))
    refine wpTree.one (fun K hK => ?_)
    go_simp
    refine hK.out _ _ hHeld (fun _ => ?_)
    clear hK K
    (repeat (first | (refine wpTree.take (v := undef) (Or.inr ⟨by rfl, rfl⟩) ?_; simp only [Act.put, List.setIfInBounds_toArray, List.set_cons_zero, List.set_cons_succ]) | (refine wpTree.take (v := .agg (Mk.cells ?_).toArray) (yieldsIf_load_mid rfl 65 _ rfl _ _ rfl (Mk.cells _) _ ?_ Try.underlying65 rfl (mkinfo _)) ?_; rotate_left; (focus (intro _ hS; refine mrange_next hS ?_; assumption)); simp only [Act.put, List.setIfInBounds_toArray, List.set_cons_zero, List.set_cons_succ]) | (refine wpTree.take (v := ?_) (Or.inl ⟨by rfl, ?_⟩) ?_; rotate_left; (focus (intro _ hS; (try dsimp only at hS); go_split_ands; (try subst hS); go_simp; (try (with_reducible rfl)); done)); simp only [Act.put, List.setIfInBounds_toArray, List.set_cons_zero, List.set_cons_succ])))
    refine wpTree.done ?_
    have HF := Lib.hid (HB0.out.trans (hHeld.mono HB0.out.size))
    clear hHeld ra rb
    go_wp2_with fail
    go_ret
    exact ⟨by first | (rw [HC.out]; done) | (rw [HC.out]; rfl), HF.out⟩
  | true =>
    rw [hra] at HRA
    cases hrb : rightM b with
    | false =>
      rw [hrb] at HRB
      have HC := Lib.hid (show coversM a b = false by unfold coversM; rw [hra, hrb]; rfl)
      clear hra hrb
      refine wp_region_tree (S := (fun W' => Below (W1).heap.size W1 W')) (.take 0 (.one 1 (.take 2 (.take 3 (.one 4 (.take 5 (.take 6 (.take 7 (.take 8 (.take 11 (.one 9 (.one 10 (.one 12 (.take 13 (.take 14 .nil))))))))))))))) 9999 (by kernel_rfl) (by kernel_rfl) (by kernel_rfl) (by kernel_rfl) (by kernel_rfl) (fun _ _ d _ _ h => by cases d <;> exact h) ?_ (fun hHeld => ?_); (focus (exact (Below.refl _ _).drew)); simp only [Tree.map, List.getElem?_toArray, List.getElem?_cons_zero, List.getElem?_cons_succ]
      (repeat (first | (refine wpTree.take (v := undef) (Or.inr ⟨by rfl, rfl⟩) ?_; simp only [Act.put, List.setIfInBounds_toArray, List.set_cons_zero, List.set_cons_succ]) | (refine wpTree.take (v := .agg (Mk.cells ?_).toArray) (yieldsIf_load_mid rfl 65 _ rfl _ _ rfl (Mk.cells _) _ ?_ Try.underlying65 rfl (mkinfo _)) ?_; rotate_left; (focus (intro _ hS; refine mrange_next hS ?_; assumption)); simp only [Act.put, List.setIfInBounds_toArray, List.set_cons_zero, List.set_cons_succ]) | (refine wpTree.take (v := ?_) (Or.inl ⟨by rfl, ?_⟩) ?_; rotate_left; (focus (intro _ hS; (try dsimp only at hS); go_split_ands; (try subst hS); go_simp; (try (with_reducible rfl)); done)); simp only [Act.put, List.setIfInBounds_toArray, List.set_cons_zero, List.set_cons_succ])))
      refine wpTree.one (fun K hK => ?_)
      go_simp
      go_at_call 35
      refine (HRA.out _).mono ?_
      rintro e W2 ⟨rfl, hbW2⟩
      have hBelow := Below.trans hHeld (hbW2.mono (Below.size hHeld))
      refine hK.out _ _ hBelow (fun hHeld' => ?_)
      clear hK K hHeld hbW2 hBelow
      have hHeld := hHeld'
      clear hHeld'
      (repeat (first | (refine wpTree.take (v := undef) (Or.inr ⟨by rfl, rfl⟩) ?_; simp only [Act.put, List.setIfInBounds_toArray, List.set_cons_zero, List.set_cons_succ]) | (refine wpTree.take (v := .agg (Mk.cells ?_).toArray) (yieldsIf_load_mid rfl 65 _ rfl _ _ rfl (Mk.cells _) _ ?_ Try.underlying65 rfl (mkinfo _)) ?_; rotate_left; (focus (intro _ hS; refine mrange_next hS ?_; assumption)); simp only [Act.put, List.setIfInBounds_toArray, List.set_cons_zero, List.set_cons_succ]) | (refine wpTree.take (v := ?_) (Or.inl ⟨by rfl, ?_⟩) ?_; rotate_left; (focus (intro _ hS; (try dsimp only at hS); go_split_ands; (try subst hS); go_simp; (try (with_reducible rfl)); done)); simp only [Act.put, List.setIfInBounds_toArray, List.set_cons_zero, List.set_cons_succ])))
      refine wpTree.one (fun K hK => ?_)
      go_simp
      go_at_call 35
      refine (HRB.out _).mono ?_
      rintro e W3 ⟨rfl, hbW3⟩
      have hBelow := Below.trans hHeld (hbW3.mono (Below.size hHeld))
      refine hK.out _ _ hBelow (fun hHeld' => ?_)
      clear hK K hHeld hbW3 hBelow
      have hHeld := hHeld'
      clear hHeld'
      (repeat (first | (refine wpTree.take (v := undef) (Or.inr ⟨by rfl, rfl⟩) ?_; simp only [Act.put, List.setIfInBounds_toArray, List.set_cons_zero, List.set_cons_succ]) | (refine wpTree.take (v := .agg (Mk.cells ?_).toArray) (yieldsIf_load_mid rfl 65 _ rfl _ _ rfl (Mk.cells _) _ ?_ Try.underlying65 rfl (mkinfo _)) ?_; rotate_left; (focus (intro _ hS; refine mrange_next hS ?_; assumption)); simp only [Act.put, List.setIfInBounds_toArray, List.set_cons_zero, List.set_cons_succ]) | (refine wpTree.take (v := ?_) (Or.inl ⟨by rfl, ?_⟩) ?_; rotate_left; (focus (intro _ hS; (try dsimp only at hS); go_split_ands; (try subst hS); go_simp; (try (with_reducible rfl)); done)); simp only [Act.put, List.setIfInBounds_toArray, List.set_cons_zero, List.set_cons_succ])))
      refine wpTree.one (fun K hK => ?_)
      go_simp
      refine hK.out _ _ hHeld (fun _ => ?_)
      clear hK K
      (repeat (first | (refine wpTree.take (v := undef) (Or.inr ⟨by rfl, rfl⟩) ?_; simp only [Act.put, List.setIfInBounds_toArray, List.set_cons_zero, List.set_cons_succ]) | (refine wpTree.take (v := .agg (Mk.cells ?_).toArray) (yieldsIf_load_mid rfl 65 _ rfl _ _ rfl (Mk.cells _) _ ?_ Try.underlying65 rfl (mkinfo _)) ?_; rotate_left; (focus (intro _ hS; refine mrange_next hS ?_; assumption)); simp only [Act.put, List.setIfInBounds_toArray, List.set_cons_zero, List.set_cons_succ]) | (refine wpTree.take (v := ?_) (Or.inl ⟨by rfl, ?_⟩) ?_; rotate_left; (focus (intro _ hS; (try dsimp only at hS); go_split_ands; (try subst hS); go_simp; (try (with_reducible rfl)); done)); simp only [Act.put, List.setIfInBounds_toArray, List.set_cons_zero, List.set_cons_succ])))
      refine wpTree.one (fun K hK => ?_)
      go_simp
      refine hK.out _ _ hHeld (fun _ => ?_)
      clear hK K
      (repeat (first | (refine wpTree.take (v := undef) (Or.inr ⟨by rfl, rfl⟩) ?_; simp only [Act.put, List.setIfInBounds_toArray, List.set_cons_zero, List.set_cons_succ]) | (refine wpTree.take (v := .agg (Mk.cells ?_).toArray) (yieldsIf_load_mid rfl 65 _ rfl _ _ rfl (Mk.cells _) _ ?_ Try.underlying65 rfl (mkinfo _)) ?_; rotate_left; (focus (intro _ hS; refine mrange_next hS ?_; assumption)); simp only [Act.put, List.setIfInBounds_toArray, List.set_cons_zero, List.set_cons_succ]) | (refine wpTree.take (v := ?_) (Or.inl ⟨by rfl, ?_⟩) ?_; rotate_left; (focus (intro _ hS; (try dsimp only at hS); go_split_ands; (try subst hS); go_simp; (try (with_reducible rfl)); done)); simp only [Act.put, List.setIfInBounds_toArray, List.set_cons_zero, List.set_cons_succ])))
      refine wpTree.one (fun K hK => ?_)
      go_simp
      refine hK.out _ _ hHeld (fun _ => ?_)
      clear hK K
      (repeat (first | (refine wpTree.take (v := undef) (Or.inr ⟨by rfl, rfl⟩) ?_; simp only [Act.put, List.setIfInBounds_toArray, List.set_cons_zero, List.set_cons_succ]) | (refine wpTree.take (v := .agg (Mk.cells ?_).toArray) (yieldsIf_load_mid rfl 65 _ rfl _ _ rfl (Mk.cells _) _ ?_ Try.underlying65 rfl (mkinfo _)) ?_; rotate_left; (focus (intro _ hS; refine mrange_next hS ?_; assumption)); simp only [Act.put, List.setIfInBounds_toArray, List.set_cons_zero, List.set_cons_succ]) | (refine wpTree.take (v := ?_) (Or.inl ⟨by rfl, ?_⟩) ?_; rotate_left; (focus (intro _ hS; (try dsimp only at hS); go_split_ands; (try subst hS); go_simp; (try (with_reducible rfl)); done)); simp only [Act.put, List.setIfInBounds_toArray, List.set_cons_zero, List.set_cons_succ])))
      refine wpTree.done ?_
      have HF := Lib.hid (HB0.out.trans (hHeld.mono HB0.out.size))
      clear hHeld ra rb
      go_wp2_with fail
      go_ret
      exact ⟨by first | (rw [HC.out]; done) | (rw [HC.out]; rfl), HF.out⟩
    | true =>
      rw [hrb] at HRB
      have HC := Lib.hid (show coversM a b = sameM (joinM [a, b]) a by unfold coversM; rw [hra, hrb]; rfl)
      clear hra hrb
      refine wp_region_tree (S := (fun W' => Below (W1).heap.size W1 W')) (.take 0 (.one 1 (.take 2 (.take 3 (.one 4 (.take 5 (.take 6 (.take 7 (.take 8 (.take 11 (.one 9 (.one 10 (.one 12 (.take 13 (.take 14 .nil))))))))))))))) 9999 (by kernel_rfl) (by kernel_rfl) (by kernel_rfl) (by kernel_rfl) (by kernel_rfl) (fun _ _ d _ _ h => by cases d <;> exact h) ?_ (fun hHeld => ?_); (focus (exact (Below.refl _ _).drew)); simp only [Tree.map, List.getElem?_toArray, List.getElem?_cons_zero, List.getElem?_cons_succ]
      (repeat (first | (refine wpTree.take (v := undef) (Or.inr ⟨by rfl, rfl⟩) ?_; simp only [Act.put, List.setIfInBounds_toArray, List.set_cons_zero, List.set_cons_succ]) | (refine wpTree.take (v := .agg (Mk.cells ?_).toArray) (yieldsIf_load_mid rfl 65 _ rfl _ _ rfl (Mk.cells _) _ ?_ Try.underlying65 rfl (mkinfo _)) ?_; rotate_left; (focus (intro _ hS; refine mrange_next hS ?_; assumption)); simp only [Act.put, List.setIfInBounds_toArray, List.set_cons_zero, List.set_cons_succ]) | (refine wpTree.take (v := ?_) (Or.inl ⟨by rfl, ?_⟩) ?_; rotate_left; (focus (intro _ hS; (try dsimp only at hS); go_split_ands; (try subst hS); go_simp; (try (with_reducible rfl)); done)); simp only [Act.put, List.setIfInBounds_toArray, List.set_cons_zero, List.set_cons_succ])))
      refine wpTree.one (fun K hK => ?_)
      go_simp
      go_at_call 35
      refine (HRA.out _).mono ?_
      rintro e W2 ⟨rfl, hbW2⟩
      have hBelow := Below.trans hHeld (hbW2.mono (Below.size hHeld))
      refine hK.out _ _ hBelow (fun hHeld' => ?_)
      clear hK K hHeld hbW2 hBelow
      have hHeld := hHeld'
      clear hHeld'
      (repeat (first | (refine wpTree.take (v := undef) (Or.inr ⟨by rfl, rfl⟩) ?_; simp only [Act.put, List.setIfInBounds_toArray, List.set_cons_zero, List.set_cons_succ]) | (refine wpTree.take (v := .agg (Mk.cells ?_).toArray) (yieldsIf_load_mid rfl 65 _ rfl _ _ rfl (Mk.cells _) _ ?_ Try.underlying65 rfl (mkinfo _)) ?_; rotate_left; (focus (intro _ hS; refine mrange_next hS ?_; assumption)); simp only [Act.put, List.setIfInBounds_toArray, List.set_cons_zero, List.set_cons_succ]) | (refine wpTree.take (v := ?_) (Or.inl ⟨by rfl, ?_⟩) ?_; rotate_left; (focus (intro _ hS; (try dsimp only at hS); go_split_ands; (try subst hS); go_simp; (try (with_reducible rfl)); done)); simp only [Act.put, List.setIfInBounds_toArray, List.set_cons_zero, List.set_cons_succ])))
      refine wpTree.one (fun K hK => ?_)
      go_simp
      go_at_call 35
      refine (HRB.out _).mono ?_
      rintro e W3 ⟨rfl, hbW3⟩
      have hBelow := Below.trans hHeld (hbW3.mono (Below.size hHeld))
      refine hK.out _ _ hBelow (fun hHeld' => ?_)
      clear hK K hHeld hbW3 hBelow
      have hHeld := hHeld'
      clear hHeld'
      (repeat (first | (refine wpTree.take (v := undef) (Or.inr ⟨by rfl, rfl⟩) ?_; simp only [Act.put, List.setIfInBounds_toArray, List.set_cons_zero, List.set_cons_succ]) | (refine wpTree.take (v := .agg (Mk.cells ?_).toArray) (yieldsIf_load_mid rfl 65 _ rfl _ _ rfl (Mk.cells _) _ ?_ Try.underlying65 rfl (mkinfo _)) ?_; rotate_left; (focus (intro _ hS; refine mrange_next hS ?_; assumption)); simp only [Act.put, List.setIfInBounds_toArray, List.set_cons_zero, List.set_cons_succ]) | (refine wpTree.take (v := ?_) (Or.inl ⟨by rfl, ?_⟩) ?_; rotate_left; (focus (intro _ hS; (try dsimp only at hS); go_split_ands; (try subst hS); go_simp; (try (with_reducible rfl)); done)); simp only [Act.put, List.setIfInBounds_toArray, List.set_cons_zero, List.set_cons_succ])))
      refine wpTree.one (fun K hK => ?_)
      refine step_buildMks [a, b] 2 _ (by rfl) rfl rfl (by decide) (by decide) zmks_2 (by simp [mkParts]; exact ⟨rfl, rfl⟩) ?_
      have hbx := (Below.refl W3.heap.size W3).alloc (Nat.le_refl _) (.cells ([a, b].flatMap Mk.cells).toArray 65)
      have HR := Lib.hid (mks_new W3 [a, b])
      rw [show ([a, b].flatMap Mk.cells).toArray = (a.cells ++ b.cells).toArray by simp] at HR
      refine hK.out _ _ (Below.trans hHeld (hbx.mono (Below.size hHeld))) (fun hHeld' => ?_)
      clear hK K hHeld hbx
      have hHeld := hHeld'
      clear hHeld'
      rw [show ([a, b].flatMap Mk.cells).toArray = (a.cells ++ b.cells).toArray by simp] at hHeld
      (repeat (first | (refine wpTree.take (v := undef) (Or.inr ⟨by rfl, rfl⟩) ?_; simp only [Act.put, List.setIfInBounds_toArray, List.set_cons_zero, List.set_cons_succ]) | (refine wpTree.take (v := .agg (Mk.cells ?_).toArray) (yieldsIf_load_mid rfl 65 _ rfl _ _ rfl (Mk.cells _) _ ?_ Try.underlying65 rfl (mkinfo _)) ?_; rotate_left; (focus (intro _ hS; refine mrange_next hS ?_; assumption)); simp only [Act.put, List.setIfInBounds_toArray, List.set_cons_zero, List.set_cons_succ]) | (refine wpTree.take (v := ?_) (Or.inl ⟨by rfl, ?_⟩) ?_; rotate_left; (focus (intro _ hS; (try dsimp only at hS); go_split_ands; (try subst hS); go_simp; (try (with_reducible rfl)); done)); simp only [Act.put, List.setIfInBounds_toArray, List.set_cons_zero, List.set_cons_succ])))
      refine wpTree.one (fun K hK => ?_)
      go_simp
      go_at_call 33
      refine (mjoin_any _ 2 2 [a, b] _ rfl (by decide) HR.out HP.out).mono ?_
      rintro e W4 ⟨rfl, hbW4⟩
      have hBelow := Below.trans hHeld (hbW4.mono (Below.size hHeld))
      refine hK.out _ _ hBelow (fun hHeld' => ?_)
      clear hK K hHeld hbW4 hBelow
      have hHeld := hHeld'
      clear hHeld'
      (repeat (first | (refine wpTree.take (v := undef) (Or.inr ⟨by rfl, rfl⟩) ?_; simp only [Act.put, List.setIfInBounds_toArray, List.set_cons_zero, List.set_cons_succ]) | (refine wpTree.take (v := .agg (Mk.cells ?_).toArray) (yieldsIf_load_mid rfl 65 _ rfl _ _ rfl (Mk.cells _) _ ?_ Try.underlying65 rfl (mkinfo _)) ?_; rotate_left; (focus (intro _ hS; refine mrange_next hS ?_; assumption)); simp only [Act.put, List.setIfInBounds_toArray, List.set_cons_zero, List.set_cons_succ]) | (refine wpTree.take (v := ?_) (Or.inl ⟨by rfl, ?_⟩) ?_; rotate_left; (focus (intro _ hS; (try dsimp only at hS); go_split_ands; (try subst hS); go_simp; (try (with_reducible rfl)); done)); simp only [Act.put, List.setIfInBounds_toArray, List.set_cons_zero, List.set_cons_succ])))
      refine wpTree.one (fun K hK => ?_)
      go_simp
      go_at_call 36
      refine (msame_any _ _ _).mono ?_
      rintro e W5 ⟨rfl, hbW5⟩
      have hBelow := Below.trans hHeld (hbW5.mono (Below.size hHeld))
      refine hK.out _ _ hBelow (fun hHeld' => ?_)
      clear hK K hHeld hbW5 hBelow
      have hHeld := hHeld'
      clear hHeld'
      (repeat (first | (refine wpTree.take (v := undef) (Or.inr ⟨by rfl, rfl⟩) ?_; simp only [Act.put, List.setIfInBounds_toArray, List.set_cons_zero, List.set_cons_succ]) | (refine wpTree.take (v := .agg (Mk.cells ?_).toArray) (yieldsIf_load_mid rfl 65 _ rfl _ _ rfl (Mk.cells _) _ ?_ Try.underlying65 rfl (mkinfo _)) ?_; rotate_left; (focus (intro _ hS; refine mrange_next hS ?_; assumption)); simp only [Act.put, List.setIfInBounds_toArray, List.set_cons_zero, List.set_cons_succ]) | (refine wpTree.take (v := ?_) (Or.inl ⟨by rfl, ?_⟩) ?_; rotate_left; (focus (intro _ hS; (try dsimp only at hS); go_split_ands; (try subst hS); go_simp; (try (with_reducible rfl)); done)); simp only [Act.put, List.setIfInBounds_toArray, List.set_cons_zero, List.set_cons_succ])))
      refine wpTree.done ?_
      have HF := Lib.hid (HB0.out.trans (hHeld.mono HB0.out.size))
      clear hHeld ra rb
      go_wp2_with fail
      go_ret
      exact ⟨by first | (rw [HC.out]; done) | (rw [HC.out]; rfl), HF.out⟩
end Go.Proofs.Ytlejnjgepnjceaa

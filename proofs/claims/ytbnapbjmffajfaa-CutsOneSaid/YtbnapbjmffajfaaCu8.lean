/-
cuts: Propose.
-/
import Derived.Test.YtbnapbjmffajfaaCu7
namespace Go.Proofs.Ytbnapbjmffajfaa
open Go.RowKit
set_option linter.unusedSimpArgs false
set_option linter.unusedVariables false

theorem yields_build {P : Program} {ops : Array Oper} {S : World → Prop} {o : Oper} {a : Act} (cells : Array Value) (hw : Region.wanted o (yielded ops a.tmps) = true) (t : TypeId) (parts : List (Nat × Operand))
    (ho : o.op = .build t parts.toArray) (hp : P.built t (parts.map fun x => (x.1, a.eval x.2)) = some cells) : YieldsIf P ops S o (.agg cells) a := by
  refine .inl ⟨hw, fun w _ => ?_⟩
  have e : (parts.toArray.map fun x => (x.1, a.eval x.2)).toList = parts.map fun x => (x.1, a.eval x.2) := by simp
  unfold execOp
  simp only [ho]
  have := run_build (P := P) w t (parts.toArray.map fun x => (x.1, a.eval x.2)) cells (by rw [e]; exact hp)
  simp only [Sem.run_bind]
  show ((Instr.build t (parts.toArray.map fun x => (x.1, a.eval x.2))).run P w).andThen _ = _
  rw [this]; rfl
theorem bodyPost_row_tmp {P : Program} {fn : Func} {R : Ending → World → Prop} {a : Act} {p u : Tmp} {ty : TypeId} {w : World} {g : Nat} {t : TypeId} (cs : Array Value) (x : Value) {d : TypeDesc} (h : fn.results = #[.cell p ty, .tmp u]) (ha : a.defers = [])
    (hp : a.tmps.getD p undef = .pointer (some ⟨g, 0, none⟩)) (hx : a.tmps.getD u undef = x)
    (hu : P.underlying ty = some d) (hd : (match d with | .struct _ | .array _ _ => true | _ => false) = true) (hi : (P.info? ty).map (·.size) = some cs.size) (hg : Blk w g t cs)
    (hR : R (.returned (.tuple #[.agg cs, x])) w) : bodyPost P fn R .ret a w := by
  refine bodyPost_ret (v := .tuple #[.agg cs, x]) ?_ ha hR
  rw [results_cell_tmp h, hp, hx]
  simp [asAddr, run_loadVar_row w g t ty cs (0, 0) d hg hu hd hi]
theorem st_siz (x : St) : (14 : Nat) = x.cells.toArray.size := by rw [List.size_toArray, st_len]
def propE (cs : List Ct) (a : Sd) (s : St) : Int :=
  if !rightS s then 1 else if a.is then 15 else if decide (20 ≤ cs.length) then 5 else if !covB s.f (lastF cs) then 14 else if eqB s.f (lastF cs) then 4 else 0
section
variable {W W' : World} {B t : Nat} {F : Nat → Prop} {own other : Int} {v : Value} {cs : List Ct} {a b : Sd}
theorem Tb.wider {G : Nat → Prop} (T : Tb W B t F own other v cs a b) (hFG : ∀ k, F k → G k) (hG : ∀ k, G k → B ≤ k ∧ k < W.heap.size) : Tb W B t G own other v cs a b :=
  ⟨hFG _ T.ft, fun k hk => hFG _ (T.fv k hk), T.blk, T.row, hG⟩
end
/-- The end of a stance that is said: a result box R is written. -/
theorem said_end {W w7 w8 w9 : World} {B t : Nat} {F : Nat → Prop} {own other : Int} {v : Value} {cs : List Ct} {a b a' b' : Sd} {R : Nat} {x : Array Value} (T : Tb W B t F own other v cs a b) (hB7 : Below W.heap.size W w7) (hs8 : w8.heap.size = w7.heap.size) (h8 : ∀ k, k ≠ t → w8.heap[k]? = w7.heap[k]?) (hb8 : Below B w7 w8)
    (hD : DecP w8 B t F own other cs a' b' w9) (hR1 : W.heap.size ≤ R) (hR2 : R < w7.heap.size) : DecP W B t F own other cs a' b' (w9.setRow R x) := by
  obtain ⟨v', T9, t9⟩ := hD
  have hB := T.low t T.ft
  have h7 := hB7.size
  have h9 := t9.1.size
  have far : ∀ k, k ≠ R → (w9.setRow R x).heap[k]? = w9.heap[k]? := fun k hk => setRow_other w9 R k x hk
  have hs : (w9.setRow R x).heap.size = w9.heap.size := by simp
  have hRF : ∀ k, Grow F w8 w9 k → k ≠ R := by
    rintro k (hk | ⟨h1, h2⟩) rfl
    · have := (T.low k hk).2; omega
    · omega
  have T10 : Tb (w9.setRow R x) B t (Grow F w8 w9) own other v' _ _ _ := T9.keep (fun k hk => far k (hRF k hk)) (by rw [hs]; exact Nat.le_refl _)
  refine ⟨v', T10.wider ?_ ?_, ?_, ?_⟩
  · rintro k (hk | ⟨h1, h2⟩)
    · exact Or.inl hk
    · exact Or.inr ⟨by omega, by omega⟩
  · rintro k (hk | ⟨h1, h2⟩)
    · have := T.low k hk; exact ⟨this.1, by omega⟩
    · exact ⟨by omega, h2⟩
  · exact below_setRow (((hB7.mono (by omega)).trans hb8).trans t9.1) (by omega) _
  · intro k hk hF
    exact (far k (by omega)).trans ((t9.2 k (by omega) hF).trans ((h8 k (fun e => hF (e ▸ T.ft))).trans (hB7.block k hk)))
set_option maxHeartbeats 4000000 in
set_option maxRecDepth 20000 in
theorem propose_any (W : World) {B t : Nat} {F : Nat → Prop} {own other : Int} {v : Value} {cs : List Ct} {a b : Sd} (T : Tb W B t F own other v cs a b) (ho : own ≠ 0) (hl : cs.length ≤ 100000) (tm : Nat) (f : Nat → Nat) :
    Calls Try.prog 8 #[.pointer (some ⟨t, 0, none⟩), .int .u64 (tm : Nat), .agg (vl f).toArray] W fun e W' =>
      (propE cs a ⟨true, tm, f⟩ ≠ 0 ∧ e = .returned (.tuple #[.agg St.zero.cells.toArray, .int .i64 (propE cs a ⟨true, tm, f⟩)]) ∧ Below W.heap.size W W') ∨
      (propE cs a ⟨true, tm, f⟩ = 0 ∧ e = .returned (.tuple #[.agg (St.mk true tm f).cells.toArray, .int .i64 0]) ∧ DecP W B t F own other cs ⟨true, true, tm, f⟩ b W') := by
  have HT := Lib.hid T
  have HL := Lib.hid hl
  have HO := Lib.hid ho
  clear T hl ho
  have bs := built_st3 ⟨true, tm, f⟩
  obtain ⟨s, hs⟩ : ∃ s, s = St.mk true tm f := ⟨_, rfl⟩
  have bV := ((Blk.new W 33 (vl f).toArray).alloc (.cells #[.bool false, .int .u64 0, .int .u32 0, .int .u32 0, .int .u32 0, .int .u32 0, .int .u32 0, .int .u32 0, .int .u32 0, .int .u32 0, .int .u32 0, .int .u32 0, .int .u32 0, .int .u32 0] 39))
  go_enter Try.func8, Try.ntmps8
  go_upto_region 2 with (first | (refine wpList_load_blk (by rfl) 33 _ rfl W.heap.size rfl 33 (vl f).toArray _ bV Try.underlying33 rfl (vinfo _) ?_) | (refine wpList_build_lit (St.mk true tm f).cells.toArray rfl 39 _ rfl bs ?_) | (refine wpList_store_blk rfl 39 _ _ rfl (W.heap.size + 1 + 1) 39 #[.bool false, .int .u64 0, .int .u32 0, .int .u32 0, .int .u32 0, .int .u32 0, .int .u32 0, .int .u32 0, .int .u32 0, .int .u32 0, .int .u32 0, .int .u32 0, .int .u32 0, .int .u32 0] (St.mk true tm f).cells.toArray rfl rfl (Blk.new' (by simp)) (stinfoA _) (st_siz _) (st_one _) ?_; intro b3))
  obtain ⟨w3, hw3⟩ : ∃ w3, w3 = (((W.alloc (.cells (vl f).toArray 33)).alloc (.cells #[.bool false, .int .u64 0, .int .u32 0, .int .u32 0, .int .u32 0, .int .u32 0, .int .u32 0, .int .u32 0, .int .u32 0, .int .u32 0, .int .u32 0, .int .u32 0, .int .u32 0, .int .u32 0] 39)).alloc (.cells #[.bool false, .int .u64 0, .int .u32 0, .int .u32 0, .int .u32 0, .int .u32 0, .int .u32 0, .int .u32 0, .int .u32 0, .int .u32 0, .int .u32 0, .int .u32 0, .int .u32 0, .int .u32 0] 39)).setRow (W.heap.size + 1 + 1) (St.mk true tm f).cells.toArray := ⟨_, rfl⟩
  have hV3 : Blk w3 W.heap.size 33 (vl f).toArray := by rw [hw3]; exact (bV.alloc _).farRow (by omega) _
  have hR3 : Blk w3 (W.heap.size + 1) 39 St.zero.cells.toArray := by rw [hw3, st_zero]; exact (((Blk.new' (by simp) : Blk ((W.alloc (.cells (vl f).toArray 33)).alloc (.cells #[.bool false, .int .u64 0, .int .u32 0, .int .u32 0, .int .u32 0, .int .u32 0, .int .u32 0, .int .u32 0, .int .u32 0, .int .u32 0, .int .u32 0, .int .u32 0, .int .u32 0, .int .u32 0] 39)) (W.heap.size + 1) 39 #[.bool false, .int .u64 0, .int .u32 0, .int .u32 0, .int .u32 0, .int .u32 0, .int .u32 0, .int .u32 0, .int .u32 0, .int .u32 0, .int .u32 0, .int .u32 0, .int .u32 0, .int .u32 0])).alloc _).farRow (by omega) _
  have hb3 : Below W.heap.size W w3 := by rw [hw3]; exact below_setRow ((((Below.refl _ _).alloc (Nat.le_refl _) _).alloc (by simp) _).alloc (by simp; omega) _) (by omega) _
  have hsz3 : w3.heap.size = W.heap.size + 3 := by rw [hw3]; simp
  rw [← hw3] at b3 ⊢
  clear hw3 bV bs
  rw [← hs] at b3 ⊢
  have HSF := Lib.hid (show s.f = f ∧ s.h = true by rw [hs]; exact ⟨rfl, rfl⟩)
  have HSQ := Lib.hid hs
  clear hs
  have HV := Lib.hid hV3
  have HR3 := Lib.hid hR3
  have HS3 := Lib.hid b3
  have HB3 := Lib.hid hb3
  have HM := Lib.hid (fun w hb => made_any w (HT.out.next hb) HO.out)
  clear hV3 hR3 b3 hb3
  (try simp only [Act.put, List.setIfInBounds_toArray, List.set_cons_zero, List.set_cons_succ])
  go_upto_region 4 with (go_at_call 16; refine (HM.out _ HB3.out).mono ?_; rintro e w4 ⟨rfl, rfl⟩)
  cases h1 : rightS s with
  | false =>
    have HE := Lib.hid (show propE cs a ⟨true, tm, f⟩ = 1 by rw [← HSQ.out]; unfold propE; rw [h1]; rfl)
    have hrt := right_any s w3
    rw [h1] at hrt
    have HRT := Lib.hid hrt
    clear hrt h1
    go_upto_region 5 with (first | (refine wpList_load_blk (by rfl) 39 _ rfl (W.heap.size + 1 + 1) rfl 39 s.cells.toArray _ HS3.out Try.underlying39 rfl (stinfoA _) ?_) | (go_at_call 17; refine HRT.out.mono ?_; rintro e w4 ⟨rfl, hb4⟩; have HR4 := Lib.hid (HR3.out.next hb4); have HB4 := Lib.hid (HB3.out.trans (hb4.mono HB3.out.size)); clear hb4))
    go_wp2_with (first | (refine wpList_build_lit St.zero.cells.toArray rfl 39 _ rfl built_st ?_) | (refine wpList_store_blk rfl 39 _ _ rfl (W.heap.size + 1) 39 St.zero.cells.toArray St.zero.cells.toArray rfl rfl HR4.out (stinfoA _) rfl (st_one _) ?_; intro bz; have HZ := Lib.hid bz; have HBZ := Lib.hid (below_setRow HB4.out (Nat.le_succ _) St.zero.cells.toArray); clear bz))
    refine bodyPost_row_tmp St.zero.cells.toArray (.int .i64 1) rfl rfl rfl rfl Try.underlying39 rfl (stinfoA _) HZ.out ?_
    exact Or.inl ⟨by rw [HE.out]; decide, by rw [HE.out], HBZ.out⟩
  | true =>
    have hrt := right_any s w3
    rw [h1] at hrt
    have HRT := Lib.hid hrt
    have H1 := Lib.hid h1
    clear hrt h1
    go_upto_region 6 with (first | (refine wpList_load_blk (by rfl) 39 _ rfl (W.heap.size + 1 + 1) rfl 39 s.cells.toArray _ HS3.out Try.underlying39 rfl (stinfoA _) ?_) | (go_at_call 17; refine HRT.out.mono ?_; rintro e w4 ⟨rfl, hb4⟩; have HV4 := Lib.hid (HV.out.next hb4); have HS4 := Lib.hid (HS3.out.next hb4); have HR4 := Lib.hid (HR3.out.next hb4); have HB4 := Lib.hid (HB3.out.trans (hb4.mono HB3.out.size)); have HZ4 := Lib.hid (show W.heap.size + 3 ≤ w4.heap.size by have := hb4.size; omega); clear hb4 HRT))
    clear HV HR3 HS3 HB3 hsz3 HM
    have c3 := (HT.out.next HB4.out).c3
    cases h2 : a.is with
    | true =>
      have HE := Lib.hid (show propE cs a ⟨true, tm, f⟩ = 15 by rw [← HSQ.out]; unfold propE; rw [H1.out, h2]; rfl)
      rw [h2] at c3
      clear h2
      go_wp2_with (first | (refine wpList_build_lit St.zero.cells.toArray rfl 39 _ rfl built_st ?_) | (refine wpList_store_blk rfl 39 _ _ rfl (W.heap.size + 1) 39 St.zero.cells.toArray St.zero.cells.toArray rfl rfl HR4.out (stinfoA _) rfl (st_one _) ?_; intro bz; have HZ := Lib.hid bz; have HBZ := Lib.hid (below_setRow HB4.out (Nat.le_succ _) St.zero.cells.toArray); clear bz))
      refine bodyPost_row_tmp St.zero.cells.toArray (.int .i64 15) rfl rfl rfl rfl Try.underlying39 rfl (stinfoA _) HZ.out ?_
      exact Or.inl ⟨by rw [HE.out]; decide, by rw [HE.out], HBZ.out⟩
    | false =>
      rw [h2] at c3
      have H2 := Lib.hid h2
      clear h2
      have HFU := Lib.hid (full_any _ (HT.out.next HB4.out))
      cases h3 : decide (20 ≤ cs.length) with
      | true =>
        have HE := Lib.hid (show propE cs a ⟨true, tm, f⟩ = 5 by rw [← HSQ.out]; unfold propE; rw [H1.out, H2.out, h3]; rfl)
        rw [h3] at HFU
        clear h3
        go_upto_region 9 with (go_at_call 18; refine HFU.out.mono ?_; rintro e w5 ⟨rfl, rfl⟩)
        go_wp2_with (first | (refine wpList_build_lit St.zero.cells.toArray rfl 39 _ rfl built_st ?_) | (refine wpList_store_blk rfl 39 _ _ rfl (W.heap.size + 1) 39 St.zero.cells.toArray St.zero.cells.toArray rfl rfl HR4.out (stinfoA _) rfl (st_one _) ?_; intro bz; have HZ := Lib.hid bz; have HBZ := Lib.hid (below_setRow HB4.out (Nat.le_succ _) St.zero.cells.toArray); clear bz))
        refine bodyPost_row_tmp St.zero.cells.toArray (.int .i64 5) rfl rfl rfl rfl Try.underlying39 rfl (stinfoA _) HZ.out ?_
        exact Or.inl ⟨by rw [HE.out]; decide, by rw [HE.out], HBZ.out⟩
      | false =>
        rw [h3] at HFU
        have H3 := Lib.hid h3
        clear h3
        go_upto_region 10 with (go_at_call 18; refine HFU.out.mono ?_; rintro e w5 ⟨rfl, rfl⟩)
        clear c3 HFU
        have hv4 : w4.rangeAt W.heap.size 0 (vl f) := HV4.out.range
        refine wp_region_tree (S := (fun w' => w'.rangeAt W.heap.size 0 (vl f))) (.take 0 (.take 1 (.one 2 (.one 3 (.take 4 (.take 5 .nil)))))) 9999 (by kernel_rfl) (by kernel_rfl) (by kernel_rfl) (by kernel_rfl) (by kernel_rfl) (fun _ _ d _ _ h => by cases d <;> exact h) hv4 (fun hHeld => ?_); simp only [Tree.map, List.getElem?_toArray, List.getElem?_cons_zero, List.getElem?_cons_succ]
        (repeat (first | (refine wpTree.take (v := undef) (Or.inr ⟨by rfl, rfl⟩) ?_; simp only [Act.put, List.setIfInBounds_toArray, List.set_cons_zero, List.set_cons_succ]) | (refine wpTree.take (v := .agg (vl ?_).toArray) (yieldsIf_load_mid rfl 33 _ rfl _ _ rfl (vl _) _ ?_ Try.underlying33 rfl (vinfoL _)) ?_; rotate_left; (focus (intro _ hS; (try dsimp only at hS); go_split_ands; (first | assumption | exact Blk.range (by assumption)))); simp only [Act.put, List.setIfInBounds_toArray, List.set_cons_zero, List.set_cons_succ]) | (refine wpTree.take (v := ?_) (Or.inl ⟨by rfl, ?_⟩) ?_; rotate_left; (focus (intro _ hS; (try dsimp only at hS); go_split_ands; (try subst hS); go_simp; (try (with_reducible rfl)); done)); simp only [Act.put, List.setIfInBounds_toArray, List.set_cons_zero, List.set_cons_succ])))
        refine wpTree.one (fun K hK => ?_)
        go_simp
        go_at_call 20
        refine (last_any _ (HT.out.next HB4.out.drew) HL.out).mono ?_
        rintro e w5 ⟨rfl, hb5⟩
        have hS5 := range_below' hb5 hHeld
        refine hK.out _ _ hS5 (fun _ => ?_)
        clear hK K hHeld
        (try simp only [Act.put, List.setIfInBounds_toArray, List.set_cons_zero, List.set_cons_succ])
        refine wpTree.one (fun K hK => ?_)
        go_simp
        go_at_call 19
        refine (covers_any _ _ _).mono ?_
        rintro e w6 ⟨rfl, hb6⟩
        have hS6 := range_below' hb6 hS5
        refine hK.out _ _ hS6 (fun _ => ?_)
        clear hK K
        (try simp only [Act.put, List.setIfInBounds_toArray, List.set_cons_zero, List.set_cons_succ])
        have h46 : Below w4.heap.size w4 w6 := (show Below w4.heap.size w4 w5 from (Below.refl _ _).drew.trans hb5).trans (hb6.mono hb5.size)
        have HV6 := Lib.hid (HV4.out.next h46)
        have HS6 := Lib.hid (HS4.out.next h46)
        have HR6 := Lib.hid (HR4.out.next h46)
        have HB6 := Lib.hid (HB4.out.trans (h46.mono HB4.out.size))
        have HZ6 := Lib.hid (Nat.le_trans HZ4.out h46.size)
        clear hb5 hb6 hS5 hS6 h46 hv4 HV4 HS4 HR4 HB4 HZ4
        cases h4 : covB f (lastF cs) with
        | false =>
          have HE := Lib.hid (show propE cs a ⟨true, tm, f⟩ = 14 by rw [← HSQ.out]; unfold propE; rw [H1.out, H2.out, H3.out, HSF.out.1, h4]; rfl)
          clear h4
          (repeat (first | (refine wpTree.take (v := undef) (Or.inr ⟨by rfl, rfl⟩) ?_; simp only [Act.put, List.setIfInBounds_toArray, List.set_cons_zero, List.set_cons_succ]) | (refine wpTree.take (v := ?_) (Or.inl ⟨by rfl, ?_⟩) ?_; rotate_left; (focus (intro _ hS; (try dsimp only at hS); go_split_ands; (try subst hS); go_simp; (try (with_reducible rfl)); done)); simp only [Act.put, List.setIfInBounds_toArray, List.set_cons_zero, List.set_cons_succ])))
          refine wpTree.done ?_
          go_wp2_with (first | (refine wpList_build_lit St.zero.cells.toArray rfl 39 _ rfl built_st ?_) | (refine wpList_store_blk rfl 39 _ _ rfl (W.heap.size + 1) 39 St.zero.cells.toArray St.zero.cells.toArray rfl rfl HR6.out (stinfoA _) rfl (st_one _) ?_; intro bz; have HZ := Lib.hid bz; have HBZ := Lib.hid (below_setRow HB6.out (Nat.le_succ _) St.zero.cells.toArray); clear bz))
          refine bodyPost_row_tmp St.zero.cells.toArray (.int .i64 14) rfl rfl rfl rfl Try.underlying39 rfl (stinfoA _) HZ.out ?_
          exact Or.inl ⟨by rw [HE.out]; decide, by rw [HE.out], HBZ.out⟩
        | true =>
          have H4 := Lib.hid h4
          clear h4
          (repeat (first | (refine wpTree.take (v := undef) (Or.inr ⟨by rfl, rfl⟩) ?_; simp only [Act.put, List.setIfInBounds_toArray, List.set_cons_zero, List.set_cons_succ]) | (refine wpTree.take (v := ?_) (Or.inl ⟨by rfl, ?_⟩) ?_; rotate_left; (focus (intro _ hS; (try dsimp only at hS); go_split_ands; (try subst hS); go_simp; (try (with_reducible rfl)); done)); simp only [Act.put, List.setIfInBounds_toArray, List.set_cons_zero, List.set_cons_succ])))
          refine wpTree.done ?_
          go_upto_region 12 with fail
          have hv6 : w6.rangeAt W.heap.size 0 (vl f) := HV6.out.range
          refine wp_region_tree (S := (fun w' => w'.rangeAt W.heap.size 0 (vl f))) (.take 0 (.take 1 (.one 2 (.take 3 (.take 4 .nil))))) 9999 (by kernel_rfl) (by kernel_rfl) (by kernel_rfl) (by kernel_rfl) (by kernel_rfl) (fun _ _ d _ _ h => by cases d <;> exact h) hv6 (fun hHeld => ?_); simp only [Tree.map, List.getElem?_toArray, List.getElem?_cons_zero, List.getElem?_cons_succ]
          (repeat (first | (refine wpTree.take (v := undef) (Or.inr ⟨by rfl, rfl⟩) ?_; simp only [Act.put, List.setIfInBounds_toArray, List.set_cons_zero, List.set_cons_succ]) | (refine wpTree.take (v := .agg (vl ?_).toArray) (yieldsIf_load_mid rfl 33 _ rfl _ _ rfl (vl _) _ ?_ Try.underlying33 rfl (vinfoL _)) ?_; rotate_left; (focus (intro _ hS; (try dsimp only at hS); go_split_ands; (first | assumption | exact Blk.range (by assumption)))); simp only [Act.put, List.setIfInBounds_toArray, List.set_cons_zero, List.set_cons_succ]) | (refine wpTree.take (v := ?_) (Or.inl ⟨by rfl, ?_⟩) ?_; rotate_left; (focus (intro _ hS; (try dsimp only at hS); go_split_ands; (try subst hS); go_simp; (try (with_reducible rfl)); done)); simp only [Act.put, List.setIfInBounds_toArray, List.set_cons_zero, List.set_cons_succ])))
          refine wpTree.one (fun K hK => ?_)
          go_simp
          go_at_call 20
          refine (last_any _ (HT.out.next HB6.out.drew) HL.out).mono ?_
          rintro e w7 ⟨rfl, hb7⟩
          have hS7 := range_below' hb7 hHeld
          refine hK.out _ _ hS7 (fun _ => ?_)
          clear hK K hHeld
          (try simp only [Act.put, List.setIfInBounds_toArray, List.set_cons_zero, List.set_cons_succ])
          have h67 : Below w6.heap.size w6 w7 := (Below.refl _ _).drew.trans hb7
          have HS7 := Lib.hid (HS6.out.next h67)
          have HR7 := Lib.hid (HR6.out.next h67)
          have HB7 := Lib.hid (HB6.out.trans (h67.mono HB6.out.size))
          have HZ7 := Lib.hid (Nat.le_trans HZ6.out h67.size)
          clear hb7 hS7 h67 hv6 HV6 HS6 HR6 HB6 HZ6
          cases h5 : eqB f (lastF cs) with
          | true =>
            have HE := Lib.hid (show propE cs a ⟨true, tm, f⟩ = 4 by rw [← HSQ.out]; unfold propE; rw [H1.out, H2.out, H3.out, HSF.out.1, H4.out, h5]; rfl)
            have q := eqv f (lastF cs) h5
            clear h5
            (repeat (first | (refine wpTree.take (v := undef) (Or.inr ⟨by rfl, rfl⟩) ?_; simp only [Act.put, List.setIfInBounds_toArray, List.set_cons_zero, List.set_cons_succ]) | (refine wpTree.take (v := ?_) (Or.inl ⟨by rfl, ?_⟩) ?_; rotate_left; (focus (intro _ hS; (try dsimp only at hS); go_split_ands; (try subst hS); go_simp; (try (with_reducible rfl)); done)); simp only [Act.put, List.setIfInBounds_toArray, List.set_cons_zero, List.set_cons_succ])))
            refine wpTree.done ?_
            go_wp2_with (first | (refine wpList_build_lit St.zero.cells.toArray rfl 39 _ rfl built_st ?_) | (refine wpList_store_blk rfl 39 _ _ rfl (W.heap.size + 1) 39 St.zero.cells.toArray St.zero.cells.toArray rfl rfl HR7.out (stinfoA _) rfl (st_one _) ?_; intro bz; have HZ := Lib.hid bz; have HBZ := Lib.hid (below_setRow HB7.out (Nat.le_succ _) St.zero.cells.toArray); clear bz))
            refine bodyPost_row_tmp St.zero.cells.toArray (.int .i64 4) rfl rfl rfl rfl Try.underlying39 rfl (stinfoA _) HZ.out ?_
            exact Or.inl ⟨by rw [HE.out]; decide, by rw [HE.out], HBZ.out⟩
          | false =>
            have HE := Lib.hid (show propE cs a ⟨true, tm, f⟩ = 0 by rw [← HSQ.out]; unfold propE; rw [H1.out, H2.out, H3.out, HSF.out.1, H4.out, h5]; rfl)
            have q := eqv f (lastF cs) h5
            clear h5
            (repeat (first | (refine wpTree.take (v := undef) (Or.inr ⟨by rfl, rfl⟩) ?_; simp only [Act.put, List.setIfInBounds_toArray, List.set_cons_zero, List.set_cons_succ]) | (refine wpTree.take (v := ?_) (Or.inl ⟨by rfl, ?_⟩) ?_; rotate_left; (focus (intro _ hS; (try dsimp only at hS); go_split_ands; (try subst hS); go_simp; (try (with_reducible rfl)); done)); simp only [Act.put, List.setIfInBounds_toArray, List.set_cons_zero, List.set_cons_succ])))
            refine wpTree.done ?_
            go_upto_region 14 with fail
            clear q H1 H2 H3 H4
            have hs7 : w7.rangeAt (W.heap.size + 1 + 1) 0 s.cells := HS7.out.range
            have T7 := HT.out.next HB7.out.drew
            have hth := T7.blk.there (o := 3) (n := 15) (by simp [tc_len])
            have HT7 := Lib.hid T7
            have htW : t < W.heap.size := (HT.out.low t HT.out.ft).2
            clear T7
            refine wp_region_tree (S := (fun w' => w'.rangeAt (W.heap.size + 1 + 1) 0 s.cells)) (.take 0 (.take 1 (.take 2 (.take 3 (.take 4 (.take 5 (.one 6 .nil))))))) 9999 (by kernel_rfl) (by kernel_rfl) (by kernel_rfl) (by kernel_rfl) (by kernel_rfl) (fun _ _ d _ _ h => by cases d <;> exact h) hs7 (fun hHeld => ?_); simp only [Tree.map, List.getElem?_toArray, List.getElem?_cons_zero, List.getElem?_cons_succ]
            (repeat (first | (refine wpTree.take (v := undef) (Or.inr ⟨by rfl, rfl⟩) ?_; simp only [Act.put, List.setIfInBounds_toArray, List.set_cons_zero, List.set_cons_succ]) | (refine wpTree.take (v := .agg s.cells.toArray) (yieldsIf_load_mid rfl 39 _ rfl _ _ rfl s.cells _ (fun _ hS => hS) Try.underlying39 rfl (stinfo _)) ?_; simp only [Act.put, List.setIfInBounds_toArray, List.set_cons_zero, List.set_cons_succ]) | (refine wpTree.take (yields_build (Sd.mk true s).cells.toArray rfl 61 _ rfl (built_sd ⟨true, s⟩)) ?_; simp only [Act.put, List.setIfInBounds_toArray, List.set_cons_zero, List.set_cons_succ]) | (refine wpTree.take (v := ?_) (Or.inl ⟨by rfl, ?_⟩) ?_; rotate_left; (focus (intro _ hS; (try dsimp only at hS); go_split_ands; (try subst hS); go_simp; (try (with_reducible rfl)); done)); simp only [Act.put, List.setIfInBounds_toArray, List.set_cons_zero, List.set_cons_succ])))
            refine wpTree.one (fun K hK => ?_)
            rw [if_pos (by rfl)]
            refine wp_store_mid 61 _ _ rfl t 3 (Sd.mk true s).cells.toArray rfl rfl (by rw [List.size_toArray, sd_len]; exact hth) (sdinfoA _) (sd_one _) ?_
            rw [show (Sd.mk true s).cells.toArray.toList = (Sd.mk true s).cells from rfl]
            have h8o : ∀ k, k ≠ t → (w7.drew.setCells t 3 (Sd.mk true s).cells).heap[k]? = w7.heap[k]? := fun k hk => setCells_other t _ _ w7.drew k hk
            refine hK.out _ _ (fun j u hj => (World.cell?_of_block (h8o (W.heap.size + 1 + 1) (by omega))).trans (hHeld j u hj)) (fun _ => ?_)
            clear hK K hHeld hs7 hth
            (try simp only [Act.put, List.setIfInBounds_toArray, List.set_cons_zero, List.set_cons_succ])
            refine wpTree.done ?_
            obtain ⟨w8, hw8⟩ : ∃ w8, w8 = w7.drew.setCells t 3 (Sd.mk true s).cells := ⟨_, rfl⟩
            have T8 : Tb w8 B t F own other v cs ⟨true, s⟩ b := by rw [hw8]; exact HT7.out.setA ⟨true, s⟩
            have hs8 : w8.heap.size = w7.heap.size := by rw [hw8]; exact setCells_size t _ _ w7.drew
            have hb8 : Below B w7 w8 := by rw [hw8]; exact setCells_below (HT.out.low t HT.out.ft).1 _ _ w7.drew (Below.refl _ _).drew
            rw [← hw8] at h8o ⊢
            clear hw8
            have HS8 := Lib.hid (show Blk w8 (W.heap.size + 1 + 1) 39 s.cells.toArray from (h8o _ (by omega)).trans HS7.out)
            have HR8 := Lib.hid (show Blk w8 (W.heap.size + 1) 39 St.zero.cells.toArray from (h8o _ (by omega)).trans HR7.out)
            have HD := Lib.hid (decide_any w8 T8 HL.out)
            have H8 := Lib.hid (And.intro hs8 (And.intro h8o hb8))
            have HZ8 := Lib.hid (show W.heap.size + 3 ≤ w8.heap.size by have := HZ7.out; omega)
            clear T8 hs8 hb8 h8o htW HT7 HS7 HR7
            go_upto_region 16 with (go_at_call 21; refine HD.out.mono ?_; rintro e w9 ⟨rfl, hd⟩; have HDP := Lib.hid hd; clear hd HD)
            have hF1 : ∀ k, W.heap.size ≤ k → ¬ F k := fun k hk hF => by have := (HT.out.low k hF).2; omega
            have HS9 := Lib.hid (show Blk w9 (W.heap.size + 1 + 1) 39 s.cells.toArray from by obtain ⟨_, _, t9⟩ := HDP.out; exact (t9.2 _ (by have := HZ8.out; omega) (hF1 _ (by omega))).trans HS8.out)
            have HR9 := Lib.hid (show Blk w9 (W.heap.size + 1) 39 St.zero.cells.toArray from by obtain ⟨_, _, t9⟩ := HDP.out; exact (t9.2 _ (by have := HZ8.out; omega) (hF1 _ (by omega))).trans HR8.out)
            clear hF1 HS8 HR8
            go_wp2_with (first | (refine wpList_load_blk (by rfl) 39 _ rfl (W.heap.size + 1 + 1) rfl 39 s.cells.toArray _ HS9.out Try.underlying39 rfl (stinfoA _) ?_) | (refine wpList_store_blk rfl 39 _ _ rfl (W.heap.size + 1) 39 St.zero.cells.toArray s.cells.toArray rfl rfl HR9.out (stinfoA _) ((st_siz _).symm.trans (st_siz _)) (st_one _) ?_; intro bz; have HZZ := Lib.hid bz; clear bz))
            refine bodyPost_row_tmp s.cells.toArray (.int .i64 0) rfl rfl rfl rfl Try.underlying39 rfl (stinfoA _) HZZ.out ?_
            refine Or.inr ⟨HE.out, by rw [HSQ.out], ?_⟩
            rw [← HSQ.out]
            exact said_end HT.out HB7.out H8.out.1 H8.out.2.1 H8.out.2.2 HDP.out (by omega) (by have := HZ7.out; omega)
end Go.Proofs.Ytbnapbjmffajfaa

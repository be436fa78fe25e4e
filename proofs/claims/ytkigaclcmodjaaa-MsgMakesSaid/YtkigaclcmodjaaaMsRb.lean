/-
msg: the document's messages: plain data and messages as these; these compared and built.
-/
import Derived.Test.YtkigaclcmodjaaaMs7
import Derived.Test.YtkigaclcmodjaaaMsRa
namespace Go.Proofs.Ytkigaclcmodjaaa
open Go.RowKit
set_option linter.unusedSimpArgs false
set_option linter.unusedVariables false
namespace Mg
theorem rstinfo (s : St) : (Try.prog.info? 40).map (·.size) = some s.cells.length := by rw [st_len]; kernel_rfl
theorem rstinfoA (s : St) : (Try.prog.info? 40).map (·.size) = some s.cells.toArray.size := by rw [List.size_toArray, st_len]; kernel_rfl
theorem rst_siz (s : St) : (#[.bool false, .int .u64 0, .int .u32 0, .int .u32 0, .int .u32 0, .int .u32 0, .int .u32 0, .int .u32 0, .int .u32 0, .int .u32 0, .int .u32 0, .int .u32 0, .int .u32 0, .int .u32 0] : Array Value).size = s.cells.toArray.size := show 14 = s.cells.toArray.size by rw [List.size_toArray, st_len]
theorem rst_fill (parts : List (Nat × Value)) : Try.prog.built 40 parts = Instr.fill (#[(0, 1), (1, 1), (2, 12)][·]?) #[.bool false, .int .u64 0, .int .u32 0, .int .u32 0, .int .u32 0, .int .u32 0, .int .u32 0, .int .u32 0, .int .u32 0, .int .u32 0, .int .u32 0, .int .u32 0, .int .u32 0, .int .u32 0] parts := by kernel_rfl
theorem built_rst (s : St) : Try.prog.built 40 [(0, .bool s.h), (1, .int .u64 (s.t : Nat)), (2, .agg (vl s.f).toArray)] = some s.cells.toArray := by
  rw [rst_fill]
  have e : s.cells.toArray = #[.bool s.h, .int .u64 (s.t : Nat)] ++ (vl s.f).toArray := by rw [st_def]; simp
  rw [e]
  obtain ⟨place, hpl⟩ : ∃ place : Nat → Option (Nat × Nat), place = (#[(0, 1), (1, 1), (2, 12)][·]?) := ⟨_, rfl⟩
  have p0 : place 0 = some (0, 1) := by rw [hpl]; rfl
  have p1 : place 1 = some (1, 1) := by rw [hpl]; rfl
  have p2 : place 2 = some (2, (vl s.f).length) := by rw [hpl, vl_len]; rfl
  rw [← hpl]
  refine (fill_scM (pre := []) (post := .int .u64 0 :: z12M) p0 rfl rfl).trans ?_
  refine (fill_scM (pre := [_]) (post := z12M) p1 rfl rfl).trans ?_
  refine (fill_one (pre := [_, _]) (mid := z12M) (post := []) p2 rfl (by rw [vl_len]; rfl)).trans ?_
  rw [Instr.fill, List.append_nil]
  simp
set_option maxRecDepth 20000 in
set_option maxHeartbeats 4000000 in
theorem as11_any (s : St) (W : World) : Calls Try.prog 17 #[.agg s.cells.toArray] W fun e W' => e = .returned (.agg s.cells.toArray) ∧ Below W.heap.size W W' := by
  have bA := (Blk.new W 33 s.cells.toArray).alloc (.cells #[.bool false, .int .u64 0, .int .u32 0, .int .u32 0, .int .u32 0, .int .u32 0, .int .u32 0, .int .u32 0, .int .u32 0, .int .u32 0, .int .u32 0, .int .u32 0, .int .u32 0, .int .u32 0] 40)
  have bB : Blk ((W.alloc (.cells s.cells.toArray 33)).alloc (.cells #[.bool false, .int .u64 0, .int .u32 0, .int .u32 0, .int .u32 0, .int .u32 0, .int .u32 0, .int .u32 0, .int .u32 0, .int .u32 0, .int .u32 0, .int .u32 0, .int .u32 0, .int .u32 0] 40)) (W.heap.size + 1) 40 #[.bool false, .int .u64 0, .int .u32 0, .int .u32 0, .int .u32 0, .int .u32 0, .int .u32 0, .int .u32 0, .int .u32 0, .int .u32 0, .int .u32 0, .int .u32 0, .int .u32 0, .int .u32 0] := Blk.new' (by simp)
  have hB0 := ((Below.refl W.heap.size W).alloc (Nat.le_refl _) (.cells s.cells.toArray 33)).alloc (by simp) (.cells #[.bool false, .int .u64 0, .int .u32 0, .int .u32 0, .int .u32 0, .int .u32 0, .int .u32 0, .int .u32 0, .int .u32 0, .int .u32 0, .int .u32 0, .int .u32 0, .int .u32 0, .int .u32 0] 40)
  obtain ⟨_, rv, c0, c1⟩ := st_all bA
  have hbl := built_rst s
  clear bA
  go_enter Try.func17, Try.ntmps17
  go_upto_region 1 with fail
  obtain ⟨w1, hw⟩ : ∃ w1, w1 = (W.alloc (.cells s.cells.toArray 33)).alloc (.cells #[.bool false, .int .u64 0, .int .u32 0, .int .u32 0, .int .u32 0, .int .u32 0, .int .u32 0, .int .u32 0, .int .u32 0, .int .u32 0, .int .u32 0, .int .u32 0, .int .u32 0, .int .u32 0] 40) := ⟨_, rfl⟩
  rw [← hw] at rv c0 c1 bB hB0 ⊢
  clear hw
  go_wp2_with (first | (refine wpList_load_mid rfl 25 _ rfl _ _ rfl (vl s.f) _ rv Try.underlying25 rfl (vinfoL _) ?_) | (refine wpList_build_lit s.cells.toArray (by rfl) 40 [(0, _), (1, _), (2, _)] rfl hbl ?_) | (refine wpList_store_blk rfl 40 _ _ rfl (W.heap.size + 1) 40 _ s.cells.toArray rfl rfl bB (rstinfoA _) (rst_siz _) (st_one _) ?_; intro hrow))
  exact bodyPost_row (t := 40) s.cells.toArray rfl rfl rfl Try.underlying40 rfl (rstinfoA _) hrow ⟨rfl, below_setRow hB0 (Nat.le_succ _) _⟩
theorem rminfo (m : Ms) : (Try.prog.info? 42).map (·.size) = some (Ms.plain m).length := by rw [pm_len]; kernel_rfl
theorem rminfoA (m : Ms) : (Try.prog.info? 42).map (·.size) = some (Ms.plain m).toArray.size := by rw [List.size_toArray, pm_len]; kernel_rfl
theorem pm_ones (m : Ms) : ∀ v ∈ Ms.plain m, v.oneCell' = true := by
  intro v hv
  rw [pm_def] at hv
  unfold Ms.hd at hv
  simp only [List.mem_append, List.mem_cons, List.not_mem_nil, or_false] at hv
  rcases hv with (((rfl | rfl | rfl | rfl | rfl) | hv) | hv) | hv
  · rfl
  · rfl
  · rfl
  · rfl
  · rfl
  · exact Array.all_eq_true'.1 (lab_one m.l) v (by simpa using hv)
  · exact Array.all_eq_true'.1 (item_one m.x) v (by simpa using hv)
  · exact st_ones _ v hv
theorem pm_one (m : Ms) : (Ms.plain m).toArray.all (·.oneCell') = true := all_oneCell_toArray (pm_ones m)
abbrev zrmA : Array Value := #[.int .i64 0, .int .i64 0, .int .i64 0, .int .i64 0, .int .i64 0, .int .u64 0, .int .i64 0, .int .u32 0, .int .i64 0, .int .i64 0, .int .u32 0, .int .u32 0, .int .u32 0, .int .u32 0, .int .u32 0, .int .u32 0, .int .u32 0, .int .u32 0, .int .u32 0, .int .u32 0, .int .u32 0, .int .u32 0, .int .u64 0, .int .i64 0, .int .u32 0, .int .i64 0, .int .i64 0, .int .u32 0, .int .u32 0, .int .u32 0, .int .u32 0, .int .u32 0, .int .u32 0, .int .u32 0, .int .u32 0, .int .u32 0, .int .u32 0, .int .u32 0, .int .u32 0, .int .i64 0, .int .i64 0, .int .i64 0, .int .u64 0, .bool false, .int .u64 0, .int .u32 0, .int .u32 0, .int .u32 0, .int .u32 0, .int .u32 0, .int .u32 0, .int .u32 0, .int .u32 0, .int .u32 0, .int .u32 0, .int .u32 0, .int .u32 0]
theorem zP_cells : (Ms.plain (zM 0)).toArray = zrmA := by
  rw [pm_def]
  show (([.int .i64 0, .int .i64 0, .int .i64 0, .int .i64 0, .int .i64 0] : List Value) ++ Lab.zero.cells ++ Ev.zero.item ++ St.zero.cells).toArray = _
  rw [item_def, show Ev.zero.l = Lab.zero from rfl, show Ev.zero.o.plain = [.int .i64 0, .int .i64 0, .int .i64 0, .int .u64 0] from plain_def _, lab_zeroL, st_zeroL]
  rfl
theorem zrm_siz (m : Ms) : zrmA.size = (Ms.plain m).toArray.size := show 57 = (Ms.plain m).toArray.size by rw [List.size_toArray, pm_len]
theorem built_rfillM (parts : List (Nat × Value)) : Try.prog.built 42 parts = Instr.fill pM (Ms.plain (zM 0)).toArray parts := by
  rw [zP_cells, show pM = (#[(0, 1), (1, 1), (2, 1), (3, 1), (4, 1), (5, 17), (22, 21), (43, 14)][·]?) from by unfold pM; rfl]
  kernel_rfl
section
variable (m : Ms) (rest : List (Nat × Value))
theorem pm_arr : (Ms.plain m).toArray = (.int .i64 m.k :: .int .i64 m.se :: .int .i64 m.co :: .int .i64 m.ca :: .int .i64 m.ro :: (m.l.cells ++ m.x.item ++ m.s.cells)).toArray := by
  rw [pm_def]; unfold Ms.hd; simp [List.append_assoc]
theorem pfill_k (v : Int) : Instr.fill pM (Ms.plain m).toArray ((0, .int .i64 v) :: rest) = Instr.fill pM (Ms.plain { m with k := v }).toArray rest := by
  rw [pm_arr, pm_arr]; exact fill_scM (pre := []) p0M rfl rfl
theorem pfill_se (v : Int) : Instr.fill pM (Ms.plain m).toArray ((1, .int .i64 v) :: rest) = Instr.fill pM (Ms.plain { m with se := v }).toArray rest := by
  rw [pm_arr, pm_arr]; exact fill_scM (pre := [_]) p1M rfl rfl
theorem pfill_co (v : Int) : Instr.fill pM (Ms.plain m).toArray ((2, .int .i64 v) :: rest) = Instr.fill pM (Ms.plain { m with co := v }).toArray rest := by
  rw [pm_arr, pm_arr]; exact fill_scM (pre := [_, _]) p2M rfl rfl
theorem pfill_ca (v : Int) : Instr.fill pM (Ms.plain m).toArray ((3, .int .i64 v) :: rest) = Instr.fill pM (Ms.plain { m with ca := v }).toArray rest := by
  rw [pm_arr, pm_arr]; exact fill_scM (pre := [_, _, _]) p3M rfl rfl
theorem pfill_ro (v : Int) : Instr.fill pM (Ms.plain m).toArray ((4, .int .i64 v) :: rest) = Instr.fill pM (Ms.plain { m with ro := v }).toArray rest := by
  rw [pm_arr, pm_arr]; exact fill_scM (pre := [_, _, _, _]) p4M rfl rfl
theorem pfill_l (l : Lab) : Instr.fill pM (Ms.plain m).toArray ((5, .agg l.cells.toArray) :: rest) = Instr.fill pM (Ms.plain { m with l := l }).toArray rest := by
  rw [pm_def, pm_def, List.append_assoc, List.append_assoc, List.append_assoc]
  exact fill_one (pre := m.hd) (mid := m.l.cells) (post := m.x.item ++ m.s.cells) (by rw [p5M, lab_len]; rfl) rfl (by rw [lab_len, lab_len])
theorem pfill_x (x : Ev) : Instr.fill pM (Ms.plain m).toArray ((6, .agg x.item.toArray) :: rest) = Instr.fill pM (Ms.plain { m with x := x }).toArray rest := by
  rw [pm_def, pm_def, List.append_assoc, List.append_assoc _ _ ({ m with x := x } : Ms).s.cells]
  exact fill_one (pre := m.hd ++ m.l.cells) (mid := m.x.item) (post := m.s.cells) (by rw [p6M, item_len]) (by rw [List.length_append, hd_len, lab_len]) (by rw [item_len, item_len])
theorem pfill_s (s : St) : Instr.fill pM (Ms.plain m).toArray ((7, .agg s.cells.toArray) :: rest) = Instr.fill pM (Ms.plain { m with s := s }).toArray rest := by
  have := fill_one (place := pM) (i := 7) (off := 43) (cs := s.cells) (pre := m.hd ++ m.l.cells ++ m.x.item) (mid := m.s.cells) (post := []) (rest := rest) (by rw [p7M, st_len]) (by simp only [List.length_append, hd_len, lab_len, item_len]) (by rw [st_len, st_len])
  rw [List.append_nil, List.append_nil] at this
  rw [pm_def, pm_def]
  exact this
end
theorem rbuilt_all (m : Ms) : Try.prog.built 42 [(0, .int .i64 m.k), (1, .int .i64 m.se), (2, .int .i64 m.co), (3, .int .i64 m.ca), (4, .int .i64 m.ro), (5, .agg m.l.cells.toArray), (6, .agg m.x.item.toArray), (7, .agg m.s.cells.toArray)] = some (Ms.plain m).toArray := by
  rw [built_rfillM, pfill_k, pfill_se, pfill_co, pfill_ca, pfill_ro, pfill_l, pfill_x, pfill_s, Instr.fill]
set_option maxRecDepth 20000 in
set_option maxHeartbeats 8000000 in
theorem of23_any (m : Ms) (W : World) : Calls Try.prog 8 #[.agg m.cells.toArray] W fun e W' => e = .returned (.agg (Ms.plain m).toArray) ∧ Below W.heap.size W W' := by
  have bA := (Blk.new W 50 m.cells.toArray).alloc (.cells zrmA 42)
  have bR : Blk ((W.alloc (.cells m.cells.toArray 50)).alloc (.cells zrmA 42)) (W.heap.size + 1) 42 zrmA := Blk.new' (by simp)
  have hB := ((Below.refl W.heap.size W).alloc (Nat.le_refl _) (.cells m.cells.toArray 50)).alloc (by simp) (.cells zrmA 42)
  have hbl := rbuilt_all m
  go_enter Try.func8, Try.ntmps8
  go_upto_region 1 with fail
  obtain ⟨w1, hw1⟩ : ∃ w1, w1 = (W.alloc (.cells m.cells.toArray 50)).alloc (.cells zrmA 42) := ⟨_, rfl⟩
  rw [← hw1] at bA bR hB ⊢
  clear hw1
  obtain ⟨_, rl, rx, rs, c0, c1, c2, c3, c4⟩ := ms_all bA
  refine wp_region_tree (S := (fun w' => w'.cell? ⟨W.heap.size, 0, none⟩ = some (.int .i64 m.k) ∧ w'.cell? ⟨W.heap.size, 1, none⟩ = some (.int .i64 m.se) ∧ w'.cell? ⟨W.heap.size, 2, none⟩ = some (.int .i64 m.co) ∧ w'.cell? ⟨W.heap.size, 3, none⟩ = some (.int .i64 m.ca) ∧ w'.cell? ⟨W.heap.size, 4, none⟩ = some (.int .i64 m.ro) ∧ w'.rangeAt W.heap.size 5 m.l.cells ∧ w'.rangeAt W.heap.size 22 m.x.cells ∧ w'.rangeAt W.heap.size 43 m.s.cells)) (.take 0 (.take 1 (.take 2 (.take 3 (.take 4 (.take 5 (.take 6 (.take 7 (.take 8 (.take 9 (.take 10 (.take 11 (.take 13 (.take 14 (.take 16 (.take 17 (.one 12 (.one 15 (.one 18 (.take 19 (.one 20 .nil))))))))))))))))))))) 9999 (by kernel_rfl) (by kernel_rfl) (by kernel_rfl) (by kernel_rfl) (by kernel_rfl) (fun _ _ d _ _ h => by cases d <;> exact h) ⟨c0, c1, c2, c3, c4, rl, rx, rs⟩ (fun hHeld => ?_); simp only [Tree.map, List.getElem?_toArray, List.getElem?_cons_zero, List.getElem?_cons_succ]
  (repeat (first | (refine wpTree.take (v := undef) (Or.inr ⟨by rfl, rfl⟩) ?_; simp only [Act.put, List.setIfInBounds_toArray, List.set_cons_zero, List.set_cons_succ]) | (refine wpTree.take (v := .agg (Lab.cells ?_).toArray) (yieldsIf_load_mid rfl 27 _ rfl _ _ rfl (Lab.cells _) _ ?_ Try.underlying27 rfl (linfo _)) ?_; rotate_left; (focus (intro _ hS; exact hS.2.2.2.2.2.1)); simp only [Act.put, List.setIfInBounds_toArray, List.set_cons_zero, List.set_cons_succ]) | (refine wpTree.take (v := .agg (Ev.cells ?_).toArray) (yieldsIf_load_mid rfl 48 _ rfl _ _ rfl (Ev.cells _) _ ?_ Try.underlying48 rfl (einfo _)) ?_; rotate_left; (focus (intro _ hS; exact hS.2.2.2.2.2.2.1)); simp only [Act.put, List.setIfInBounds_toArray, List.set_cons_zero, List.set_cons_succ]) | (refine wpTree.take (v := .agg (St.cells ?_).toArray) (yieldsIf_load_mid rfl 33 _ rfl _ _ rfl (St.cells _) _ ?_ Try.underlying33 rfl (stinfo _)) ?_; rotate_left; (focus (intro _ hS; exact hS.2.2.2.2.2.2.2)); simp only [Act.put, List.setIfInBounds_toArray, List.set_cons_zero, List.set_cons_succ]) | (refine wpTree.take (v := ?_) (Or.inl ⟨by rfl, ?_⟩) ?_; rotate_left; (focus (intro _ hS; (try dsimp only at hS); go_split_ands; (try subst hS); go_simp; (try (with_reducible rfl)); done)); simp only [Act.put, List.setIfInBounds_toArray, List.set_cons_zero, List.set_cons_succ])))
  refine wpTree.one (fun K hK => ?_)
  go_simp
  go_at_call 10
  refine (as5_any m.l _).mono ?_
  rintro e w2 ⟨rfl, hb⟩
  have hb2 : Below w1.heap.size w1 w2 := (Below.refl _ _).drew.trans hb
  obtain ⟨_, rl, rx, rs, c0, c1, c2, c3, c4⟩ := ms_all (bA.next hb2)
  refine hK.out _ _ ⟨c0, c1, c2, c3, c4, rl, rx, rs⟩ (fun _ => ?_)
  clear hK K hb hHeld
  (try simp only [Act.put, List.setIfInBounds_toArray, List.set_cons_zero, List.set_cons_succ])
  refine wpTree.one (fun K hK => ?_)
  go_simp
  go_at_call 22
  refine (of6_any m.x _).mono ?_
  rintro e w3 ⟨rfl, hb⟩
  have hb3 : Below w1.heap.size w1 w3 := hb2.trans (hb.mono hb2.size)
  obtain ⟨_, rl, rx, rs, c0, c1, c2, c3, c4⟩ := ms_all (bA.next hb3)
  refine hK.out _ _ ⟨c0, c1, c2, c3, c4, rl, rx, rs⟩ (fun _ => ?_)
  clear hK K hb
  (try simp only [Act.put, List.setIfInBounds_toArray, List.set_cons_zero, List.set_cons_succ])
  refine wpTree.one (fun K hK => ?_)
  go_simp
  go_at_call 17
  refine (as11_any m.s _).mono ?_
  rintro e w4 ⟨rfl, hb⟩
  have hb4 : Below w1.heap.size w1 w4 := hb3.trans (hb.mono hb3.size)
  obtain ⟨_, rl, rx, rs, c0, c1, c2, c3, c4⟩ := ms_all (bA.next hb4)
  refine hK.out _ _ ⟨c0, c1, c2, c3, c4, rl, rx, rs⟩ (fun _ => ?_)
  clear hK K hb
  (try simp only [Act.put, List.setIfInBounds_toArray, List.set_cons_zero, List.set_cons_succ])
  have bR2 := bR.next hb4
  have hB2 := hB.trans (hb4.mono hB.size)
  refine wpTree.take (yields_build' (Ms.plain m).toArray (by rfl) 42 [(0, _), (1, _), (2, _), (3, _), (4, _), (5, _), (6, _), (7, _)] rfl hbl) ?_
  simp only [Act.put, List.setIfInBounds_toArray, List.set_cons_zero, List.set_cons_succ]
  refine wpTree.one (fun K hK => ?_)
  refine step_store_blk (by rfl) 42 _ _ rfl (W.heap.size + 1) 42 zrmA (Ms.plain m).toArray rfl rfl bR2 (rminfoA _) (zrm_siz _) (pm_one _) ?_
  have hS3 := below_setRow (Below.refl (W.heap.size + 1) w4) (Nat.le_refl _) (Ms.plain m).toArray
  have hc := fun i => hS3.cell (p := ⟨W.heap.size, i, none⟩) (Nat.lt_succ_self _)
  refine hK.out _ _ ⟨(hc 0).trans c0, (hc 1).trans c1, (hc 2).trans c2, (hc 3).trans c3, (hc 4).trans c4, fun j v hj => (hc (5 + j)).trans (rl j v hj), fun j v hj => (hc (22 + j)).trans (rx j v hj), fun j v hj => (hc (43 + j)).trans (rs j v hj)⟩ (fun _ => ?_)
  clear hK K
  refine wpTree.done ?_
  have hrow := bR2.setRow (Ms.plain m).toArray
  have hb3 := below_setRow hB2 (show W.heap.size ≤ W.heap.size + 1 by omega) (Ms.plain m).toArray
  clear hS3 hc c0 c1 c2 c3 c4 rl rx rs bA bR hB bR2 hB2
  go_wp2_with fail
  exact bodyPost_row (t := 42) (Ms.plain m).toArray rfl rfl rfl Try.underlying42 rfl (rminfoA _) hrow ⟨rfl, hb3⟩
set_option maxRecDepth 20000 in
theorem rstFields : (Try.prog.fieldsOf 40).toList.map (fun f => (f.name != "_", f.type, f.offset)) = [(true, 4, 0), (true, 22, 1), (true, 25, 2)] := by kernel_rfl
set_option maxRecDepth 20000 in
theorem eq_rstD (d : Nat) (a b : St) (w : World) : (Op.equalIn (d + 3) 40 (.agg a.cells.toArray) (.agg b.cells.toArray)).run Try.prog w = .ok (eqSt a b) w := by
  have g0 : ∀ l : St, l.cells.toArray[0]? = some (.bool l.h) := fun l => by rw [List.getElem?_toArray]; exact st_0 l
  have g1 : ∀ l : St, l.cells.toArray[1]? = some (.int .u64 (l.t : Nat)) := fun l => by rw [List.getElem?_toArray]; exact st_1 l
  rw [run_equalIn_struct w (d + 2) _ _ _ (by kernel_rfl) (by kernel_rfl), eq_tr (d + 2) _ _ _ _ w rstFields]
  rw [run_eqTr w (part_boolM (g0 a)) (part_boolM (g0 b)) (fun w => run_equalIn_bool w (d + 1) _ _ _ Try.underlying4), run_eqTr w (part_u64 (g1 a)) (part_u64 (g1 b)) (fun w => run_equalIn_int w (d + 1) _ _ _ _ _ Try.underlying22), run_eqTr w (part_vecM (fun j _ => st_2 a j)) (part_vecM (fun j _ => st_2 b j)) (fun w => run_equalIn_vec d a.f b.f w)]
  unfold eqSt
  cases (a.h == b.h) <;> cases ((a.t : Int) == (b.t : Int)) <;> cases eqB a.f b.f <;> simp [eqTr]
set_option maxRecDepth 20000 in
theorem eq_rlabD (d : Nat) (a b : Lab) (w : World) : (Op.equalIn (d + 3) 34 (.agg a.cells.toArray) (.agg b.cells.toArray)).run Try.prog w = .ok (eqL a b) w := by
  have g0 : ∀ l : Lab, l.cells.toArray[0]? = some (.int .u64 (l.t : Nat)) := fun l => by rw [List.getElem?_toArray]; exact lab_0
  have g1 : ∀ l : Lab, l.cells.toArray[1]? = some (.int .i64 l.nd) := fun l => by rw [List.getElem?_toArray]; exact lab_1
  have g2 : ∀ l : Lab, l.cells.toArray[2]? = some (.int .u32 (l.n : Nat)) := fun l => by rw [List.getElem?_toArray]; exact lab_2
  have g3 : ∀ l : Lab, l.cells.toArray[3]? = some (.int .i64 l.ca) := fun l => by rw [List.getElem?_toArray]; exact lab_3
  have g4 : ∀ l : Lab, l.cells.toArray[4]? = some (.int .i64 l.se) := fun l => by rw [List.getElem?_toArray]; exact lab_4
  have g5 : ∀ l : Lab, ∀ w, (part 25 l.cells.toArray 5).run Try.prog w = .ok (.agg (vl l.f).toArray) w := fun l w => part_vecM (fun j _ => lab_5 (l := l) (j := j)) w
  rw [run_equalIn_struct w (d + 2) _ _ _ (by kernel_rfl) (by kernel_rfl), eq_tr (d + 2) _ _ _ _ w rlabFields]
  rw [run_eqTr w (part_u64 (g0 a)) (part_u64 (g0 b)) (fun w => run_equalIn_int w (d + 1) _ _ _ _ _ Try.underlying22), run_eqTr w (part_int (g1 a)) (part_int (g1 b)) (fun w => run_equalIn_int w (d + 1) _ _ _ _ _ Try.underlying3),
    run_eqTr w (part_u32 (g2 a)) (part_u32 (g2 b)) (fun w => run_equalIn_int w (d + 1) _ _ _ _ _ Try.underlying23), run_eqTr w (part_int (g3 a)) (part_int (g3 b)) (fun w => run_equalIn_int w (d + 1) _ _ _ _ _ Try.underlying3),
    run_eqTr w (part_int (g4 a)) (part_int (g4 b)) (fun w => run_equalIn_int w (d + 1) _ _ _ _ _ Try.underlying3), run_eqTr w (g5 a) (g5 b) (fun w => run_equalIn_vec d a.f b.f w)]
  unfold eqL
  cases ((a.t : Int) == (b.t : Int)) <;> cases (a.nd == b.nd) <;> cases ((a.n : Int) == (b.n : Int)) <;> cases (a.ca == b.ca) <;> cases (a.se == b.se) <;> cases eqB a.f b.f <;> simp [eqTr]
set_option maxRecDepth 20000 in
theorem eq_ropD (d : Nat) (a b : OpR) (w : World) : (Op.equalIn (d + 2) 35 (.agg a.plain.toArray) (.agg b.plain.toArray)).run Try.prog w = .ok (sameO a b) w := by
  rw [plain_arr, plain_arr]
  rw [run_equalIn_struct w (d + 1) _ _ _ (by kernel_rfl) (by kernel_rfl), eq_tr (d + 1) _ _ _ _ w ropFields]
  rw [run_eqTr w (part_int rfl) (part_int rfl) (fun w => run_equalIn_int w d _ _ _ _ _ Try.underlying3), run_eqTr w (part_int rfl) (part_int rfl) (fun w => run_equalIn_int w d _ _ _ _ _ Try.underlying3), run_eqTr w (part_int rfl) (part_int rfl) (fun w => run_equalIn_int w d _ _ _ _ _ Try.underlying3), run_eqTr w (part_u64 rfl) (part_u64 rfl) (fun w => run_equalIn_int w d _ _ _ _ _ Try.underlying22)]
  have h3 : (((a.p : Nat) : Int) == ((b.p : Nat) : Int)) = Num.sameB a.p b.p := by unfold Num.sameB; rw [Bool.eq_iff_iff]; simp; omega
  rw [h3]
  unfold sameO
  cases h1 : (a.k == b.k) <;> cases h2 : (a.s == b.s) <;> cases h4 : (a.q == b.q) <;> cases h5 : Num.sameB a.p b.p <;> simp [eqTr]
set_option maxRecDepth 20000 in
theorem eq_revD (d : Nat) (x y : Ev) (w : World) : (Op.equalIn (d + 4) 37 (.agg x.item.toArray) (.agg y.item.toArray)).run Try.prog w = .ok (sameE x y) w := by
  rw [run_equalIn_struct w (d + 3) _ _ _ (by kernel_rfl) (by kernel_rfl), eq_tr (d + 3) _ _ _ _ w revFields]
  rw [run_eqTr w (part_rlab x) (part_rlab y) (fun w => eq_rlabD d x.l y.l w), run_eqTr w (part_rop x) (part_rop y) (fun w => eq_ropD (d + 1) x.o y.o w)]
  unfold sameE
  cases eqL x.l y.l <;> cases sameO x.o y.o <;> simp [eqTr]
theorem revsize : (Try.prog.info? 37).map (·.size) = some 21 := by kernel_rfl
theorem rstsize : (Try.prog.info? 40).map (·.size) = some 14 := by kernel_rfl
set_option maxRecDepth 20000 in
theorem rmsFields : (Try.prog.fieldsOf 42).toList.map (fun f => (f.name != "_", f.type, f.offset)) = [(true, 3, 0), (true, 3, 1), (true, 3, 2), (true, 3, 3), (true, 3, 4), (true, 34, 5), (true, 37, 22), (true, 40, 43)] := by kernel_rfl
set_option maxRecDepth 20000 in
theorem eq_rmsg (a b : Ms) (w : World) : (Op.equalIn 10000 42 (.agg (Ms.plain a).toArray) (.agg (Ms.plain b).toArray)).run Try.prog w = .ok (sameM a b) w := by
  have g0 : ∀ m : Ms, (Ms.plain m).toArray[0]? = some (.int .i64 m.k) := fun l => by rw [List.getElem?_toArray]; exact pm_0 l 0 (by omega)
  have g1 : ∀ m : Ms, (Ms.plain m).toArray[1]? = some (.int .i64 m.se) := fun l => by rw [List.getElem?_toArray]; exact pm_0 l 1 (by omega)
  have g2 : ∀ m : Ms, (Ms.plain m).toArray[2]? = some (.int .i64 m.co) := fun l => by rw [List.getElem?_toArray]; exact pm_0 l 2 (by omega)
  have g3 : ∀ m : Ms, (Ms.plain m).toArray[3]? = some (.int .i64 m.ca) := fun l => by rw [List.getElem?_toArray]; exact pm_0 l 3 (by omega)
  have g4 : ∀ m : Ms, (Ms.plain m).toArray[4]? = some (.int .i64 m.ro) := fun l => by rw [List.getElem?_toArray]; exact pm_0 l 4 (by omega)
  have g5 : ∀ m : Ms, ∀ w, (part 34 (Ms.plain m).toArray 5).run Try.prog w = .ok (.agg m.l.cells.toArray) w := fun m w => part_struct Try.underlying34 labsize lab_len (fun j hj => pm_l m j hj) w
  have g6 : ∀ m : Ms, ∀ w, (part 37 (Ms.plain m).toArray 22).run Try.prog w = .ok (.agg m.x.item.toArray) w := fun m w => part_struct Try.underlying37 revsize item_len (fun j hj => pm_x m j hj) w
  have g7 : ∀ m : Ms, ∀ w, (part 40 (Ms.plain m).toArray 43).run Try.prog w = .ok (.agg m.s.cells.toArray) w := fun m w => part_struct Try.underlying40 rstsize (st_len _) (fun j hj => pm_s m j) w
  rw [run_equalIn_struct w 9999 _ _ _ (by kernel_rfl) (by kernel_rfl), eq_tr 9999 _ _ _ _ w rmsFields]
  rw [run_eqTr w (part_int (g0 a)) (part_int (g0 b)) (fun w => run_equalIn_int w 9998 _ _ _ _ _ Try.underlying3), run_eqTr w (part_int (g1 a)) (part_int (g1 b)) (fun w => run_equalIn_int w 9998 _ _ _ _ _ Try.underlying3),
    run_eqTr w (part_int (g2 a)) (part_int (g2 b)) (fun w => run_equalIn_int w 9998 _ _ _ _ _ Try.underlying3), run_eqTr w (part_int (g3 a)) (part_int (g3 b)) (fun w => run_equalIn_int w 9998 _ _ _ _ _ Try.underlying3),
    run_eqTr w (part_int (g4 a)) (part_int (g4 b)) (fun w => run_equalIn_int w 9998 _ _ _ _ _ Try.underlying3), run_eqTr w (g5 a) (g5 b) (fun w => eq_rlabD 9996 a.l b.l w), run_eqTr w (g6 a) (g6 b) (fun w => eq_revD 9995 a.x b.x w), run_eqTr w (g7 a) (g7 b) (fun w => eq_rstD 9996 a.s b.s w)]
  unfold sameM eqM
  cases (a.k == b.k) <;> cases (a.se == b.se) <;> cases (a.co == b.co) <;> cases (a.ca == b.ca) <;> cases (a.ro == b.ro) <;> cases eqL a.l b.l <;> cases sameE a.x b.x <;> cases eqSt a.s b.s <;> simp [eqTr]
end Mg
end Go.Proofs.Ytkigaclcmodjaaa

/-
The document's labels and events: named again.
msg: the document's messages: plain data and messages as these; these compared and built.
The document's stances and messages: may they be?
-/
import Derived.Test.YtkigaclcmodjaaaGreatORef6
import Derived.Deep.CutRange
import Derived.Test.YtkigaclcmodjaaaGreatMs2
namespace Go.Proofs.YtkigaclcmodjaaaGreat
end Go.Proofs.YtkigaclcmodjaaaGreat
namespace Go.Proofs.YtkigaclcmodjaaaGreat
open Go.RowKit
set_option linter.unusedSimpArgs false
set_option linter.unusedVariables false
namespace Mg
theorem rstinfo (s : St) : (Tryz.prog.info? 42).map (·.size) = some s.cells.length := by rw [st_len]; kernel_rfl
theorem rstinfoA (s : St) : (Tryz.prog.info? 42).map (·.size) = some s.cells.toArray.size := by rw [List.size_toArray, st_len]; kernel_rfl
theorem rst_siz (s : St) : (#[.bool false, .int .u64 0, .int .u32 0, .int .u32 0, .int .u32 0, .int .u32 0, .int .u32 0, .int .u32 0, .int .u32 0, .int .u32 0, .int .u32 0, .int .u32 0, .int .u32 0, .int .u32 0] : Array Value).size = s.cells.toArray.size := show 14 = s.cells.toArray.size by rw [List.size_toArray, st_len]
theorem rst_fill (parts : List (Nat × Value)) : Tryz.prog.built 42 parts = Instr.fill (#[(0, 1), (1, 1), (2, 12)][·]?) #[.bool false, .int .u64 0, .int .u32 0, .int .u32 0, .int .u32 0, .int .u32 0, .int .u32 0, .int .u32 0, .int .u32 0, .int .u32 0, .int .u32 0, .int .u32 0, .int .u32 0, .int .u32 0] parts := by kernel_rfl
theorem built_rst (s : St) : Tryz.prog.built 42 [(0, .bool s.h), (1, .int .u64 (s.t : Nat)), (2, .agg (vl s.f).toArray)] = some s.cells.toArray := by
  rw [rst_fill]
  have e : s.cells.toArray = #[.bool s.h, .int .u64 (s.t : Nat)] ++ (vl s.f).toArray := by rw [st_def]; simp
  rw [e]
  obtain ⟨place, hpl⟩ : ∃ place : Nat → Option (Nat × Nat), place = (#[(0, 1), (1, 1), (2, 12)][·]?) := ⟨_, rfl⟩
  have p0 : place 0 = some (0, 1) := by rw [hpl]; rfl
  have p1 : place 1 = some (1, 1) := by rw [hpl]; rfl
  have p2 : place 2 = some (2, (vl s.f).length) := by rw [hpl, vl_len]; rfl
  rw [← hpl]
  refine (fill_scM (pre := []) (post := .int .u64 0 :: z12M) p0 rfl rfl).trans ?_
  refine (fill_scM (pre := [_]) (post := z12M) p1 rfl rfl).trans ?_
  refine (fill_one (pre := [_, _]) (mid := z12M) (post := []) p2 rfl (by rw [vl_len]; rfl)).trans ?_
  rw [Instr.fill, List.append_nil]
  simp
set_option maxRecDepth 20000 in
set_option maxHeartbeats 4000000 in
theorem as11_any (s : St) (W : World) : Calls Tryz.prog 23 #[.agg s.cells.toArray] W fun e W' => e = .returned (.agg s.cells.toArray) ∧ Below W.heap.size W W' := by
  have bA := (Blk.new W 33 s.cells.toArray).alloc (.cells #[.bool false, .int .u64 0, .int .u32 0, .int .u32 0, .int .u32 0, .int .u32 0, .int .u32 0, .int .u32 0, .int .u32 0, .int .u32 0, .int .u32 0, .int .u32 0, .int .u32 0, .int .u32 0] 42)
  have bB : Blk ((W.alloc (.cells s.cells.toArray 33)).alloc (.cells #[.bool false, .int .u64 0, .int .u32 0, .int .u32 0, .int .u32 0, .int .u32 0, .int .u32 0, .int .u32 0, .int .u32 0, .int .u32 0, .int .u32 0, .int .u32 0, .int .u32 0, .int .u32 0] 42)) (W.heap.size + 1) 42 #[.bool false, .int .u64 0, .int .u32 0, .int .u32 0, .int .u32 0, .int .u32 0, .int .u32 0, .int .u32 0, .int .u32 0, .int .u32 0, .int .u32 0, .int .u32 0, .int .u32 0, .int .u32 0] := Blk.new' (by simp)
  have hB0 := ((Below.refl W.heap.size W).alloc (Nat.le_refl _) (.cells s.cells.toArray 33)).alloc (by simp) (.cells #[.bool false, .int .u64 0, .int .u32 0, .int .u32 0, .int .u32 0, .int .u32 0, .int .u32 0, .int .u32 0, .int .u32 0, .int .u32 0, .int .u32 0, .int .u32 0, .int .u32 0, .int .u32 0] 42)
  obtain ⟨_, rv, c0, c1⟩ := st_all bA
  have hbl := built_rst s
  clear bA
  go_enter Tryz.func23, Tryz.ntmps23
  go_upto_region 1 with fail
  obtain ⟨w1, hw⟩ : ∃ w1, w1 = (W.alloc (.cells s.cells.toArray 33)).alloc (.cells #[.bool false, .int .u64 0, .int .u32 0, .int .u32 0, .int .u32 0, .int .u32 0, .int .u32 0, .int .u32 0, .int .u32 0, .int .u32 0, .int .u32 0, .int .u32 0, .int .u32 0, .int .u32 0] 42) := ⟨_, rfl⟩
  rw [← hw] at rv c0 c1 bB hB0 ⊢
  clear hw
  go_wp2_with (first | (refine wpList_load_mid rfl 25 _ rfl _ _ rfl (vl s.f) _ rv Tryz.underlying25 rfl (vinfoL _) ?_) | (refine wpList_build_lit s.cells.toArray (by rfl) 42 [(0, _), (1, _), (2, _)] rfl hbl ?_) | (refine wpList_store_blk rfl 42 _ _ rfl (W.heap.size + 1) 42 _ s.cells.toArray rfl rfl bB (rstinfoA _) (rst_siz _) (st_one _) ?_; intro hrow))
  exact bodyPost_row (t := 42) s.cells.toArray rfl rfl rfl Tryz.underlying42 rfl (rstinfoA _) hrow ⟨rfl, below_setRow hB0 (Nat.le_succ _) _⟩
theorem rminfo (m : Ms) : (Tryz.prog.info? 44).map (·.size) = some (Ms.plain m).length := by rw [pm_len]; kernel_rfl
theorem rminfoA (m : Ms) : (Tryz.prog.info? 44).map (·.size) = some (Ms.plain m).toArray.size := by rw [List.size_toArray, pm_len]; kernel_rfl
theorem pm_ones (m : Ms) : ∀ v ∈ Ms.plain m, v.oneCell' = true := by
  intro v hv
  rw [pm_def] at hv
  unfold Ms.hd at hv
  simp only [List.mem_append, List.mem_cons, List.not_mem_nil, or_false] at hv
  rcases hv with (((rfl | rfl | rfl | rfl | rfl) | hv) | hv) | hv
  · rfl
  · rfl
  · rfl
  · rfl
  · rfl
  · exact Array.all_eq_true'.1 (lab_one m.l) v (by simpa using hv)
  · exact Array.all_eq_true'.1 (item_one m.x) v (by simpa using hv)
  · exact st_ones _ v hv
theorem pm_one (m : Ms) : (Ms.plain m).toArray.all (·.oneCell') = true := all_oneCell_toArray (pm_ones m)
abbrev zrmA : Array Value := #[.int .i64 0, .int .i64 0, .int .i64 0, .int .i64 0, .int .i64 0, .int .u64 0, .int .i64 0, .int .u32 0, .int .i64 0, .int .i64 0, .int .u32 0, .int .u32 0, .int .u32 0, .int .u32 0, .int .u32 0, .int .u32 0, .int .u32 0, .int .u32 0, .int .u32 0, .int .u32 0, .int .u32 0, .int .u32 0, .int .u64 0, .int .i64 0, .int .u32 0, .int .i64 0, .int .i64 0, .int .u32 0, .int .u32 0, .int .u32 0, .int .u32 0, .int .u32 0, .int .u32 0, .int .u32 0, .int .u32 0, .int .u32 0, .int .u32 0, .int .u32 0, .int .u32 0, .int .i64 0, .int .i64 0, .int .i64 0, .int .u64 0, .bool false, .int .u64 0, .int .u32 0, .int .u32 0, .int .u32 0, .int .u32 0, .int .u32 0, .int .u32 0, .int .u32 0, .int .u32 0, .int .u32 0, .int .u32 0, .int .u32 0, .int .u32 0]
theorem zP_cells : (Ms.plain (zM 0)).toArray = zrmA := by
  rw [pm_def]
  show (([.int .i64 0, .int .i64 0, .int .i64 0, .int .i64 0, .int .i64 0] : List Value) ++ Lab.zero.cells ++ Ev.zero.item ++ St.zero.cells).toArray = _
  rw [item_def, show Ev.zero.l = Lab.zero from rfl, show Ev.zero.o.plain = [.int .i64 0, .int .i64 0, .int .i64 0, .int .u64 0] from plain_def _, lab_zeroL, st_zeroL]
  rfl
theorem zrm_siz (m : Ms) : zrmA.size = (Ms.plain m).toArray.size := show 57 = (Ms.plain m).toArray.size by rw [List.size_toArray, pm_len]
theorem built_rfillM (parts : List (Nat × Value)) : Tryz.prog.built 44 parts = Instr.fill pM (Ms.plain (zM 0)).toArray parts := by
  rw [zP_cells, show pM = (#[(0, 1), (1, 1), (2, 1), (3, 1), (4, 1), (5, 17), (22, 21), (43, 14)][·]?) from by unfold pM; rfl]
  kernel_rfl
section
variable (m : Ms) (rest : List (Nat × Value))
theorem pm_arr : (Ms.plain m).toArray = (.int .i64 m.k :: .int .i64 m.se :: .int .i64 m.co :: .int .i64 m.ca :: .int .i64 m.ro :: (m.l.cells ++ m.x.item ++ m.s.cells)).toArray := by
  rw [pm_def]; unfold Ms.hd; simp [List.append_assoc]
theorem pfill_k (v : Int) : Instr.fill pM (Ms.plain m).toArray ((0, .int .i64 v) :: rest) = Instr.fill pM (Ms.plain { m with k := v }).toArray rest := by
  rw [pm_arr, pm_arr]; exact fill_scM (pre := []) p0M rfl rfl
theorem pfill_se (v : Int) : Instr.fill pM (Ms.plain m).toArray ((1, .int .i64 v) :: rest) = Instr.fill pM (Ms.plain { m with se := v }).toArray rest := by
  rw [pm_arr, pm_arr]; exact fill_scM (pre := [_]) p1M rfl rfl
theorem pfill_co (v : Int) : Instr.fill pM (Ms.plain m).toArray ((2, .int .i64 v) :: rest) = Instr.fill pM (Ms.plain { m with co := v }).toArray rest := by
  rw [pm_arr, pm_arr]; exact fill_scM (pre := [_, _]) p2M rfl rfl
theorem pfill_ca (v : Int) : Instr.fill pM (Ms.plain m).toArray ((3, .int .i64 v) :: rest) = Instr.fill pM (Ms.plain { m with ca := v }).toArray rest := by
  rw [pm_arr, pm_arr]; exact fill_scM (pre := [_, _, _]) p3M rfl rfl
theorem pfill_ro (v : Int) : Instr.fill pM (Ms.plain m).toArray ((4, .int .i64 v) :: rest) = Instr.fill pM (Ms.plain { m with ro := v }).toArray rest := by
  rw [pm_arr, pm_arr]; exact fill_scM (pre := [_, _, _, _]) p4M rfl rfl
theorem pfill_l (l : Lab) : Instr.fill pM (Ms.plain m).toArray ((5, .agg l.cells.toArray) :: rest) = Instr.fill pM (Ms.plain { m with l := l }).toArray rest := by
  rw [pm_def, pm_def, List.append_assoc, List.append_assoc, List.append_assoc]
  exact fill_one (pre := m.hd) (mid := m.l.cells) (post := m.x.item ++ m.s.cells) (by rw [p5M, lab_len]; rfl) rfl (by rw [lab_len, lab_len])
theorem pfill_x (x : Ev) : Instr.fill pM (Ms.plain m).toArray ((6, .agg x.item.toArray) :: rest) = Instr.fill pM (Ms.plain { m with x := x }).toArray rest := by
  rw [pm_def, pm_def, List.append_assoc, List.append_assoc _ _ ({ m with x := x } : Ms).s.cells]
  exact fill_one (pre := m.hd ++ m.l.cells) (mid := m.x.item) (post := m.s.cells) (by rw [p6M, item_len]) (by rw [List.length_append, hd_len, lab_len]) (by rw [item_len, item_len])
theorem pfill_s (s : St) : Instr.fill pM (Ms.plain m).toArray ((7, .agg s.cells.toArray) :: rest) = Instr.fill pM (Ms.plain { m with s := s }).toArray rest := by
  have := fill_one (place := pM) (i := 7) (off := 43) (cs := s.cells) (pre := m.hd ++ m.l.cells ++ m.x.item) (mid := m.s.cells) (post := []) (rest := rest) (by rw [p7M, st_len]) (by simp only [List.length_append, hd_len, lab_len, item_len]) (by rw [st_len, st_len])
  rw [List.append_nil, List.append_nil] at this
  rw [pm_def, pm_def]
  exact this
end
theorem rbuilt_all (m : Ms) : Tryz.prog.built 44 [(0, .int .i64 m.k), (1, .int .i64 m.se), (2, .int .i64 m.co), (3, .int .i64 m.ca), (4, .int .i64 m.ro), (5, .agg m.l.cells.toArray), (6, .agg m.x.item.toArray), (7, .agg m.s.cells.toArray)] = some (Ms.plain m).toArray := by
  rw [built_rfillM, pfill_k, pfill_se, pfill_co, pfill_ca, pfill_ro, pfill_l, pfill_x, pfill_s, Instr.fill]
set_option maxRecDepth 20000 in
set_option maxHeartbeats 8000000 in
theorem of23_any (m : Ms) (W : World) : Calls Tryz.prog 13 #[.agg m.cells.toArray] W fun e W' => e = .returned (.agg (Ms.plain m).toArray) ∧ Below W.heap.size W W' := by
  have bA := (Blk.new W 55 m.cells.toArray).alloc (.cells zrmA 44)
  have bR : Blk ((W.alloc (.cells m.cells.toArray 55)).alloc (.cells zrmA 44)) (W.heap.size + 1) 44 zrmA := Blk.new' (by simp)
  have hB := ((Below.refl W.heap.size W).alloc (Nat.le_refl _) (.cells m.cells.toArray 55)).alloc (by simp) (.cells zrmA 44)
  have hbl := rbuilt_all m
  go_enter Tryz.func13, Tryz.ntmps13
  go_upto_region 1 with fail
  obtain ⟨w1, hw1⟩ : ∃ w1, w1 = (W.alloc (.cells m.cells.toArray 55)).alloc (.cells zrmA 44) := ⟨_, rfl⟩
  rw [← hw1] at bA bR hB ⊢
  clear hw1
  obtain ⟨_, rl, rx, rs, c0, c1, c2, c3, c4⟩ := ms_all bA
  refine wp_region_tree (S := (fun w' => w'.cell? ⟨W.heap.size, 0, none⟩ = some (.int .i64 m.k) ∧ w'.cell? ⟨W.heap.size, 1, none⟩ = some (.int .i64 m.se) ∧ w'.cell? ⟨W.heap.size, 2, none⟩ = some (.int .i64 m.co) ∧ w'.cell? ⟨W.heap.size, 3, none⟩ = some (.int .i64 m.ca) ∧ w'.cell? ⟨W.heap.size, 4, none⟩ = some (.int .i64 m.ro) ∧ w'.rangeAt W.heap.size 5 m.l.cells ∧ w'.rangeAt W.heap.size 22 m.x.cells ∧ w'.rangeAt W.heap.size 43 m.s.cells)) (.take 0 (.take 1 (.take 2 (.take 3 (.take 4 (.take 5 (.take 6 (.take 7 (.take 8 (.take 9 (.take 10 (.take 11 (.take 13 (.take 14 (.take 16 (.take 17 (.one 12 (.one 15 (.one 18 (.take 19 (.one 20 .nil))))))))))))))))))))) 9999 (by kernel_rfl) (by kernel_rfl) (by kernel_rfl) (by kernel_rfl) (by kernel_rfl) (fun _ _ d _ _ h => by cases d <;> exact h) ⟨c0, c1, c2, c3, c4, rl, rx, rs⟩ (fun hHeld => ?_); simp only [Tree.map, List.getElem?_toArray, List.getElem?_cons_zero, List.getElem?_cons_succ]
  (repeat (first | (refine wpTree.take (v := undef) (Or.inr ⟨by rfl, rfl⟩) ?_; simp only [Act.put, List.setIfInBounds_toArray, List.set_cons_zero, List.set_cons_succ]) | (refine wpTree.take (v := .agg (Lab.cells ?_).toArray) (yieldsIf_load_mid rfl 27 _ rfl _ _ rfl (Lab.cells _) _ ?_ Tryz.underlying27 rfl (linfo _)) ?_; rotate_left; (focus (intro _ hS; exact hS.2.2.2.2.2.1)); simp only [Act.put, List.setIfInBounds_toArray, List.set_cons_zero, List.set_cons_succ]) | (refine wpTree.take (v := .agg (Ev.cells ?_).toArray) (yieldsIf_load_mid rfl 53 _ rfl _ _ rfl (Ev.cells _) _ ?_ Tryz.underlying53 rfl (einfo _)) ?_; rotate_left; (focus (intro _ hS; exact hS.2.2.2.2.2.2.1)); simp only [Act.put, List.setIfInBounds_toArray, List.set_cons_zero, List.set_cons_succ]) | (refine wpTree.take (v := .agg (St.cells ?_).toArray) (yieldsIf_load_mid rfl 33 _ rfl _ _ rfl (St.cells _) _ ?_ Tryz.underlying33 rfl (stinfo _)) ?_; rotate_left; (focus (intro _ hS; exact hS.2.2.2.2.2.2.2)); simp only [Act.put, List.setIfInBounds_toArray, List.set_cons_zero, List.set_cons_succ]) | (refine wpTree.take (v := ?_) (Or.inl ⟨by rfl, ?_⟩) ?_; rotate_left; (focus (intro _ hS; (try dsimp only at hS); go_split_ands; (try subst hS); go_simp; (try (with_reducible rfl)); done)); simp only [Act.put, List.setIfInBounds_toArray, List.set_cons_zero, List.set_cons_succ])))
  refine wpTree.one (fun K hK => ?_)
  go_simp
  go_at_call 21
  refine (as5_any m.l _).mono ?_
  rintro e w2 ⟨rfl, hb⟩
  have hb2 : Below w1.heap.size w1 w2 := (Below.refl _ _).drew.trans hb
  obtain ⟨_, rl, rx, rs, c0, c1, c2, c3, c4⟩ := ms_all (bA.next hb2)
  refine hK.out _ _ ⟨c0, c1, c2, c3, c4, rl, rx, rs⟩ (fun _ => ?_)
  clear hK K hb hHeld
  (try simp only [Act.put, List.setIfInBounds_toArray, List.set_cons_zero, List.set_cons_succ])
  refine wpTree.one (fun K hK => ?_)
  go_simp
  go_at_call 54
  refine (of6_any m.x _).mono ?_
  rintro e w3 ⟨rfl, hb⟩
  have hb3 : Below w1.heap.size w1 w3 := hb2.trans (hb.mono hb2.size)
  obtain ⟨_, rl, rx, rs, c0, c1, c2, c3, c4⟩ := ms_all (bA.next hb3)
  refine hK.out _ _ ⟨c0, c1, c2, c3, c4, rl, rx, rs⟩ (fun _ => ?_)
  clear hK K hb
  (try simp only [Act.put, List.setIfInBounds_toArray, List.set_cons_zero, List.set_cons_succ])
  refine wpTree.one (fun K hK => ?_)
  go_simp
  go_at_call 23
  refine (as11_any m.s _).mono ?_
  rintro e w4 ⟨rfl, hb⟩
  have hb4 : Below w1.heap.size w1 w4 := hb3.trans (hb.mono hb3.size)
  obtain ⟨_, rl, rx, rs, c0, c1, c2, c3, c4⟩ := ms_all (bA.next hb4)
  refine hK.out _ _ ⟨c0, c1, c2, c3, c4, rl, rx, rs⟩ (fun _ => ?_)
  clear hK K hb
  (try simp only [Act.put, List.setIfInBounds_toArray, List.set_cons_zero, List.set_cons_succ])
  have bR2 := bR.next hb4
  have hB2 := hB.trans (hb4.mono hB.size)
  refine wpTree.take (yields_build' (Ms.plain m).toArray (by rfl) 44 [(0, _), (1, _), (2, _), (3, _), (4, _), (5, _), (6, _), (7, _)] rfl hbl) ?_
  simp only [Act.put, List.setIfInBounds_toArray, List.set_cons_zero, List.set_cons_succ]
  refine wpTree.one (fun K hK => ?_)
  refine step_store_blk (by rfl) 44 _ _ rfl (W.heap.size + 1) 44 zrmA (Ms.plain m).toArray rfl rfl bR2 (rminfoA _) (zrm_siz _) (pm_one _) ?_
  have hS3 := below_setRow (Below.refl (W.heap.size + 1) w4) (Nat.le_refl _) (Ms.plain m).toArray
  have hc := fun i => hS3.cell (p := ⟨W.heap.size, i, none⟩) (Nat.lt_succ_self _)
  refine hK.out _ _ ⟨(hc 0).trans c0, (hc 1).trans c1, (hc 2).trans c2, (hc 3).trans c3, (hc 4).trans c4, fun j v hj => (hc (5 + j)).trans (rl j v hj), fun j v hj => (hc (22 + j)).trans (rx j v hj), fun j v hj => (hc (43 + j)).trans (rs j v hj)⟩ (fun _ => ?_)
  clear hK K
  refine wpTree.done ?_
  have hrow := bR2.setRow (Ms.plain m).toArray
  have hb3 := below_setRow hB2 (show W.heap.size ≤ W.heap.size + 1 by omega) (Ms.plain m).toArray
  clear hS3 hc c0 c1 c2 c3 c4 rl rx rs bA bR hB bR2 hB2
  go_wp2_with fail
  exact bodyPost_row (t := 44) (Ms.plain m).toArray rfl rfl rfl Tryz.underlying44 rfl (rminfoA _) hrow ⟨rfl, hb3⟩
set_option maxRecDepth 20000 in
theorem rstFields : (Tryz.prog.fieldsOf 42).toList.map (fun f => (f.name != "_", f.type, f.offset)) = [(true, 4, 0), (true, 22, 1), (true, 25, 2)] := by kernel_rfl
set_option maxRecDepth 20000 in
theorem eq_rstD (d : Nat) (a b : St) (w : World) : (Op.equalIn (d + 3) 42 (.agg a.cells.toArray) (.agg b.cells.toArray)).run Tryz.prog w = .ok (eqSt a b) w := by
  have g0 : ∀ l : St, l.cells.toArray[0]? = some (.bool l.h) := fun l => by rw [List.getElem?_toArray]; exact st_0 l
  have g1 : ∀ l : St, l.cells.toArray[1]? = some (.int .u64 (l.t : Nat)) := fun l => by rw [List.getElem?_toArray]; exact st_1 l
  rw [run_equalIn_struct w (d + 2) _ _ _ (by kernel_rfl) (by kernel_rfl), eq_tr (d + 2) _ _ _ _ w rstFields]
  rw [run_eqTr w (part_boolM (g0 a)) (part_boolM (g0 b)) (fun w => run_equalIn_bool w (d + 1) _ _ _ Tryz.underlying4), run_eqTr w (part_u64 (g1 a)) (part_u64 (g1 b)) (fun w => run_equalIn_int w (d + 1) _ _ _ _ _ Tryz.underlying22), run_eqTr w (part_vecM (fun j _ => st_2 a j)) (part_vecM (fun j _ => st_2 b j)) (fun w => run_equalIn_vec d a.f b.f w)]
  unfold eqSt
  cases (a.h == b.h) <;> cases ((a.t : Int) == (b.t : Int)) <;> cases eqB a.f b.f <;> simp [eqTr]
set_option maxRecDepth 20000 in
theorem eq_rlabD (d : Nat) (a b : Lab) (w : World) : (Op.equalIn (d + 3) 38 (.agg a.cells.toArray) (.agg b.cells.toArray)).run Tryz.prog w = .ok (eqL a b) w := by
  have g0 : ∀ l : Lab, l.cells.toArray[0]? = some (.int .u64 (l.t : Nat)) := fun l => by rw [List.getElem?_toArray]; exact lab_0
  have g1 : ∀ l : Lab, l.cells.toArray[1]? = some (.int .i64 l.nd) := fun l => by rw [List.getElem?_toArray]; exact lab_1
  have g2 : ∀ l : Lab, l.cells.toArray[2]? = some (.int .u32 (l.n : Nat)) := fun l => by rw [List.getElem?_toArray]; exact lab_2
  have g3 : ∀ l : Lab, l.cells.toArray[3]? = some (.int .i64 l.ca) := fun l => by rw [List.getElem?_toArray]; exact lab_3
  have g4 : ∀ l : Lab, l.cells.toArray[4]? = some (.int .i64 l.se) := fun l => by rw [List.getElem?_toArray]; exact lab_4
  have g5 : ∀ l : Lab, ∀ w, (part 25 l.cells.toArray 5).run Tryz.prog w = .ok (.agg (vl l.f).toArray) w := fun l w => part_vecM (fun j _ => lab_5 (l := l) (j := j)) w
  rw [run_equalIn_struct w (d + 2) _ _ _ (by kernel_rfl) (by kernel_rfl), eq_tr (d + 2) _ _ _ _ w rlabFields]
  rw [run_eqTr w (part_u64 (g0 a)) (part_u64 (g0 b)) (fun w => run_equalIn_int w (d + 1) _ _ _ _ _ Tryz.underlying22), run_eqTr w (part_int (g1 a)) (part_int (g1 b)) (fun w => run_equalIn_int w (d + 1) _ _ _ _ _ Tryz.underlying3),
    run_eqTr w (part_u32 (g2 a)) (part_u32 (g2 b)) (fun w => run_equalIn_int w (d + 1) _ _ _ _ _ Tryz.underlying23), run_eqTr w (part_int (g3 a)) (part_int (g3 b)) (fun w => run_equalIn_int w (d + 1) _ _ _ _ _ Tryz.underlying3),
    run_eqTr w (part_int (g4 a)) (part_int (g4 b)) (fun w => run_equalIn_int w (d + 1) _ _ _ _ _ Tryz.underlying3), run_eqTr w (g5 a) (g5 b) (fun w => run_equalIn_vec d a.f b.f w)]
  unfold eqL
  cases ((a.t : Int) == (b.t : Int)) <;> cases (a.nd == b.nd) <;> cases ((a.n : Int) == (b.n : Int)) <;> cases (a.ca == b.ca) <;> cases (a.se == b.se) <;> cases eqB a.f b.f <;> simp [eqTr]
set_option maxRecDepth 20000 in
theorem eq_ropD (d : Nat) (a b : OpR) (w : World) : (Op.equalIn (d + 2) 39 (.agg a.plain.toArray) (.agg b.plain.toArray)).run Tryz.prog w = .ok (sameO a b) w := by
  rw [plain_arr, plain_arr]
  rw [run_equalIn_struct w (d + 1) _ _ _ (by kernel_rfl) (by kernel_rfl), eq_tr (d + 1) _ _ _ _ w ropFields]
  rw [run_eqTr w (part_int rfl) (part_int rfl) (fun w => run_equalIn_int w d _ _ _ _ _ Tryz.underlying3), run_eqTr w (part_int rfl) (part_int rfl) (fun w => run_equalIn_int w d _ _ _ _ _ Tryz.underlying3), run_eqTr w (part_int rfl) (part_int rfl) (fun w => run_equalIn_int w d _ _ _ _ _ Tryz.underlying3), run_eqTr w (part_u64 rfl) (part_u64 rfl) (fun w => run_equalIn_int w d _ _ _ _ _ Tryz.underlying22)]
  have h3 : (((a.p : Nat) : Int) == ((b.p : Nat) : Int)) = Num.sameB a.p b.p := by unfold Num.sameB; rw [Bool.eq_iff_iff]; simp; omega
  rw [h3]
  unfold sameO
  cases h1 : (a.k == b.k) <;> cases h2 : (a.s == b.s) <;> cases h4 : (a.q == b.q) <;> cases h5 : Num.sameB a.p b.p <;> simp [eqTr]
set_option maxRecDepth 20000 in
theorem eq_revD (d : Nat) (x y : Ev) (w : World) : (Op.equalIn (d + 4) 41 (.agg x.item.toArray) (.agg y.item.toArray)).run Tryz.prog w = .ok (sameE x y) w := by
  rw [run_equalIn_struct w (d + 3) _ _ _ (by kernel_rfl) (by kernel_rfl), eq_tr (d + 3) _ _ _ _ w revFields]
  rw [run_eqTr w (part_rlab x) (part_rlab y) (fun w => eq_rlabD d x.l y.l w), run_eqTr w (part_rop x) (part_rop y) (fun w => eq_ropD (d + 1) x.o y.o w)]
  unfold sameE
  cases eqL x.l y.l <;> cases sameO x.o y.o <;> simp [eqTr]
theorem revsize : (Tryz.prog.info? 41).map (·.size) = some 21 := by kernel_rfl
theorem rstsize : (Tryz.prog.info? 42).map (·.size) = some 14 := by kernel_rfl
set_option maxRecDepth 20000 in
theorem rmsFields : (Tryz.prog.fieldsOf 44).toList.map (fun f => (f.name != "_", f.type, f.offset)) = [(true, 3, 0), (true, 3, 1), (true, 3, 2), (true, 3, 3), (true, 3, 4), (true, 38, 5), (true, 41, 22), (true, 42, 43)] := by kernel_rfl
set_option maxRecDepth 20000 in
theorem eq_rmsg (a b : Ms) (w : World) : (Op.equalIn 10000 44 (.agg (Ms.plain a).toArray) (.agg (Ms.plain b).toArray)).run Tryz.prog w = .ok (sameM a b) w := by
  have g0 : ∀ m : Ms, (Ms.plain m).toArray[0]? = some (.int .i64 m.k) := fun l => by rw [List.getElem?_toArray]; exact pm_0 l 0 (by omega)
  have g1 : ∀ m : Ms, (Ms.plain m).toArray[1]? = some (.int .i64 m.se) := fun l => by rw [List.getElem?_toArray]; exact pm_0 l 1 (by omega)
  have g2 : ∀ m : Ms, (Ms.plain m).toArray[2]? = some (.int .i64 m.co) := fun l => by rw [List.getElem?_toArray]; exact pm_0 l 2 (by omega)
  have g3 : ∀ m : Ms, (Ms.plain m).toArray[3]? = some (.int .i64 m.ca) := fun l => by rw [List.getElem?_toArray]; exact pm_0 l 3 (by omega)
  have g4 : ∀ m : Ms, (Ms.plain m).toArray[4]? = some (.int .i64 m.ro) := fun l => by rw [List.getElem?_toArray]; exact pm_0 l 4 (by omega)
  have g5 : ∀ m : Ms, ∀ w, (part 38 (Ms.plain m).toArray 5).run Tryz.prog w = .ok (.agg m.l.cells.toArray) w := fun m w => part_struct Tryz.underlying38 labsize lab_len (fun j hj => pm_l m j hj) w
  have g6 : ∀ m : Ms, ∀ w, (part 41 (Ms.plain m).toArray 22).run Tryz.prog w = .ok (.agg m.x.item.toArray) w := fun m w => part_struct Tryz.underlying41 revsize item_len (fun j hj => pm_x m j hj) w
  have g7 : ∀ m : Ms, ∀ w, (part 42 (Ms.plain m).toArray 43).run Tryz.prog w = .ok (.agg m.s.cells.toArray) w := fun m w => part_struct Tryz.underlying42 rstsize (st_len _) (fun j hj => pm_s m j) w
  rw [run_equalIn_struct w 9999 _ _ _ (by kernel_rfl) (by kernel_rfl), eq_tr 9999 _ _ _ _ w rmsFields]
  rw [run_eqTr w (part_int (g0 a)) (part_int (g0 b)) (fun w => run_equalIn_int w 9998 _ _ _ _ _ Tryz.underlying3), run_eqTr w (part_int (g1 a)) (part_int (g1 b)) (fun w => run_equalIn_int w 9998 _ _ _ _ _ Tryz.underlying3),
    run_eqTr w (part_int (g2 a)) (part_int (g2 b)) (fun w => run_equalIn_int w 9998 _ _ _ _ _ Tryz.underlying3), run_eqTr w (part_int (g3 a)) (part_int (g3 b)) (fun w => run_equalIn_int w 9998 _ _ _ _ _ Tryz.underlying3),
    run_eqTr w (part_int (g4 a)) (part_int (g4 b)) (fun w => run_equalIn_int w 9998 _ _ _ _ _ Tryz.underlying3), run_eqTr w (g5 a) (g5 b) (fun w => eq_rlabD 9996 a.l b.l w), run_eqTr w (g6 a) (g6 b) (fun w => eq_revD 9995 a.x b.x w), run_eqTr w (g7 a) (g7 b) (fun w => eq_rstD 9996 a.s b.s w)]
  unfold sameM eqM
  cases (a.k == b.k) <;> cases (a.se == b.se) <;> cases (a.co == b.co) <;> cases (a.ca == b.ca) <;> cases (a.ro == b.ro) <;> cases eqL a.l b.l <;> cases sameE a.x b.x <;> cases eqSt a.s b.s <;> simp [eqTr]
end Mg
end Go.Proofs.YtkigaclcmodjaaaGreat
namespace Go.Proofs.YtkigaclcmodjaaaGreat
open Go.RowKit
set_option linter.unusedSimpArgs false
set_option linter.unusedVariables false
namespace Mg
structure Ms.Lt (m : Ms) : Prop where
  lf : ∀ i, m.l.f i < 4294967296
  ln : m.l.n < 4294967296
  xf : ∀ i, m.x.l.f i < 4294967296
  xn : m.x.l.n < 4294967296
theorem Ms.Bd.lt {m : Ms} (h : Ms.Bd m) : Ms.Lt m := ⟨h.l.f, h.l.n, h.x.l.f, h.x.l.n⟩
theorem maxK_iff (f : Nat → Nat) : maxK f 11 ≤ 1048576 ↔ ∀ i, i < 12 → f i ≤ 1048576 := by
  rw [maxK_le]
  exact ⟨fun h i hi => h i (by omega), fun h i hi => h i (by omega)⟩
def OkTo (s : St) (h : Bool) (k : Nat) : Prop := ∀ j, j < k → s.f j ≤ 1048576 ∧ (h = false → s.f j = 0)
set_option maxRecDepth 20000 in
set_option maxHeartbeats 4000000 in
theorem rright11_any (s : St) (W : World) : Calls Tryz.prog 52 #[.agg s.cells.toArray] W fun e W' => e = .returned (.bool (rightS s)) ∧ Below W.heap.size W W' := by
  have bA := Blk.new W 42 s.cells.toArray
  have hB := (Below.refl W.heap.size W).alloc (Nat.le_refl _) (.cells s.cells.toArray 42)
  obtain ⟨r0, r2, c0, c1⟩ := st_all bA
  have HR := Lib.hid r2
  have HB := Lib.hid hB
  obtain ⟨h, hh⟩ : ∃ h, h = s.h := ⟨_, rfl⟩
  obtain ⟨t, ht⟩ : ∃ t : Int, t = (s.t : Nat) := ⟨_, rfl⟩
  rw [← hh] at c0
  rw [← ht] at c1
  have HH := Lib.hid (And.intro hh ht)
  clear bA hB r0 r2 hh ht
  go_enter Tryz.func52, Tryz.ntmps52
  go_upto_region 1 with fail
  obtain ⟨w1, hw1⟩ : ∃ w1, w1 = W.alloc (.cells s.cells.toArray 42) := ⟨_, rfl⟩
  rw [← hw1] at c0 c1 HR HB ⊢
  clear hw1
  go_wp2_with fail
  go_loop [3] (fun i => ∃ k : Nat, k ≤ 12 ∧ i = .int .i64 k ∧ OkTo s h k) (fun i => 12 - (intOf i).toNat)
  case atStart => exact ⟨0, Nat.zero_le _, rfl, fun j hj => absurd hj (Nat.not_lt_zero _)⟩
  case round =>
    obtain ⟨k, hk, rfl, hno⟩ := hrel
    have HNO := Lib.hid hno
    clear hno
    by_cases hlt : k < 12
    · have h1 : (k : Int) < 12 := by omega
      have ck := HR.out k _ (vl_get (f := s.f) hlt)
      obtain ⟨u, hu⟩ : ∃ u : Int, u = (s.f k : Nat) := ⟨_, rfl⟩
      rw [← hu] at ck
      have HU := Lib.hid hu
      clear hu
      have ck2 : w1.cell? ⟨W.heap.size, k + 2, none⟩ = some (.int .u32 u) := by rw [Nat.add_comm]; exact ck
      by_cases hbig : (1048576 : Int) < u
      · have HZ := Lib.hid (show rightS s = false by
          unfold rightS
          have hm : ¬ maxK s.f 11 ≤ 1048576 := fun hm => by have := (maxK_iff s.f).1 hm k hlt; have := HU.out; omega
          have hz : eqB s.f (fun _ => 0) = false := by
            rw [Bool.eq_false_iff]; intro hz; have := (eqB_iff _ _).1 hz k hlt; have := HU.out; omega
          rw [hz, decide_eq_false hm]
          split <;> simp)
        have hbig' : decide ((1048576 : Int) < u) = true := decide_eq_true hbig
        clear hbig
        go_wp2_with fail
        go_ret
        exact ⟨by rw [HZ.out]; rfl, HB.out⟩
      · cases h with
        | true =>
          have HB2 := Lib.hid hbig
          have hbig' : decide ((1048576 : Int) < u) = false := decide_eq_false hbig
          clear hbig
          go_wp2_with fail
          go_round
          case rel => exact ⟨k + 1, by omega, by go_num, fun j hj => by
            rcases Nat.lt_or_ge j k with h9 | h9
            · exact HNO.out j h9
            · obtain rfl : j = k := by omega
              exact ⟨by have := HB2.out; have := HU.out; omega, fun h9 => by cases h9⟩⟩
          case measure => simp [intOf]; omega
        | false =>
          have hbig' : decide ((1048576 : Int) < u) = false := decide_eq_false hbig
          have HB2 := Lib.hid hbig
          clear hbig
          by_cases hpos : (0 : Int) < u
          · have HZ := Lib.hid (show rightS s = false by
              unfold rightS
              have hz : eqB s.f (fun _ => 0) = false := by
                rw [Bool.eq_false_iff]; intro hz; have := (eqB_iff _ _).1 hz k hlt; have := HU.out; omega
              rw [← HH.out.1, hz]
              simp)
            have hp' : decide ((0 : Int) < u) = true := decide_eq_true hpos
            clear hpos
            go_wp2_with fail
            go_ret
            exact ⟨by rw [HZ.out]; rfl, HB.out⟩
          · have hp' : decide ((0 : Int) < u) = false := decide_eq_false hpos
            have HP2 := Lib.hid hpos
            clear hpos
            go_wp2_with fail
            go_round
            case rel => exact ⟨k + 1, by omega, by go_num, fun j hj => by
              rcases Nat.lt_or_ge j k with h9 | h9
              · exact HNO.out j h9
              · obtain rfl : j = k := by omega
                exact ⟨by have := HB2.out; have := HU.out; omega, fun _ => by have := HP2.out; have := HU.out; omega⟩⟩
            case measure => simp [intOf]; omega
    · obtain rfl : k = 12 := by omega
      clear hlt hk
      cases h with
      | true =>
        have HZ := Lib.hid (show rightS s = (decide (0 < t) && decide (t ≤ 1099511627776)) by
          unfold rightS
          rw [← HH.out.1, if_pos rfl, decide_eq_true ((maxK_iff s.f).2 fun i hi => (HNO.out i hi).1), Bool.and_true]
          have := HH.out.2
          congr 1
          · rw [decide_eq_decide]; omega
          · rw [decide_eq_decide]; omega)
        by_cases p1 : 0 < t
        · have d1 : decide (0 < t) = true := decide_eq_true p1
          by_cases p2 : t ≤ 1099511627776
          · have d2 : decide (t ≤ 1099511627776) = true := decide_eq_true p2
            rw [d1, d2] at HZ
            clear p1 p2
            go_wp2_with fail
            go_ret
            exact ⟨by rw [HZ.out]; rfl, HB.out⟩
          · have d2 : decide (t ≤ 1099511627776) = false := decide_eq_false p2
            rw [d1, d2] at HZ
            clear p1 p2
            go_wp2_with fail
            go_ret
            exact ⟨by rw [HZ.out]; rfl, HB.out⟩
        · have d1 : decide (0 < t) = false := decide_eq_false p1
          rw [d1] at HZ
          clear p1
          go_wp2_with fail
          go_ret
          exact ⟨by rw [HZ.out]; rfl, HB.out⟩
      | false =>
        have HZ := Lib.hid (show rightS s = (t == 0) by
          unfold rightS
          have he : eqB s.f (fun _ => 0) = true := (eqB_iff _ _).2 fun i hi => (HNO.out i hi).2 rfl
          rw [← HH.out.1, if_neg (by simp), he, Bool.and_true, Bool.eq_iff_iff, decide_eq_true_eq, beq_iff_eq]
          have := HH.out.2
          omega)
        go_wp2_with fail
        go_ret
        exact ⟨by rw [HZ.out]; first | rfl | simp, HB.out⟩
theorem built_rzM (k : Int) : Tryz.prog.built 44 [(0, .int .i64 k)] = some (Ms.plain (zM k)).toArray := by
  rw [built_rfillM, pfill_k, Instr.fill]; rfl
theorem pm_setL {w : World} {g : Nat} {t : TypeId} {m : Ms} (h : Blk w g t (Ms.plain m).toArray) (l : Lab) : Blk (w.setCells g 5 l.cells) g t (Ms.plain { m with l := l }).toArray := by
  rw [pm_def] at h ⊢
  rw [List.append_assoc] at h ⊢
  exact Blk.setMid l.cells m.hd m.l.cells _ w h (by rw [lab_len, lab_len])
theorem pm_setX {w : World} {g : Nat} {t : TypeId} {m : Ms} (h : Blk w g t (Ms.plain m).toArray) (x : Ev) : Blk (w.setCells g 22 x.item) g t (Ms.plain { m with x := x }).toArray := by
  rw [pm_def] at h ⊢
  have := Blk.setMid x.item (m.hd ++ m.l.cells) m.x.item _ w h (by rw [item_len, item_len])
  rwa [show (m.hd ++ m.l.cells).length = 22 from by rw [List.length_append, hd_len, lab_len]] at this
theorem pm_setS {w : World} {g : Nat} {t : TypeId} {m : Ms} (h : Blk w g t (Ms.plain m).toArray) (s : St) : Blk (w.setCells g 43 s.cells) g t (Ms.plain { m with s := s }).toArray := by
  rw [pm_def] at h ⊢
  have := Blk.setMid (q := []) s.cells (m.hd ++ m.l.cells ++ m.x.item) m.s.cells w (by rw [List.append_nil]; exact h) (by rw [st_len, st_len])
  rw [show (m.hd ++ m.l.cells ++ m.x.item).length = 43 from by simp only [List.length_append, hd_len, lab_len, item_len], List.append_nil] at this
  exact this
theorem pm_setH {w : World} {g : Nat} {t : TypeId} {m n : Ms} {i : Nat} {v : Value} (h : Blk w g t (Ms.plain m).toArray) (hi : i < 5) (hn : n.hd = m.hd.set i v) (hl : n.l = m.l) (hx : n.x = m.x) (hs : n.s = m.s) : Blk (w.setCell ⟨g, i, none⟩ v) g t (Ms.plain n).toArray := by
  have h1 := h.setCell i v
  rw [pm_def] at h1 ⊢
  rw [hn, hl, hx, hs]
  have e : (m.hd ++ m.l.cells ++ m.x.item ++ m.s.cells).toArray.setIfInBounds i v = (m.hd.set i v ++ m.l.cells ++ m.x.item ++ m.s.cells).toArray := by
    rw [List.setIfInBounds_toArray, List.append_assoc, List.append_assoc, List.set_append_left _ _ (by rw [hd_len]; exact hi)]
    simp only [List.append_assoc]
  rw [e] at h1
  exact h1
theorem hd_injM {a b : Ms} (h : a.cells = b.cells) : a.hd = b.hd ∧ a.l.cells = b.l.cells ∧ a.x.cells = b.x.cells ∧ a.s.cells = b.s.cells := by
  rw [ms_def, ms_def] at h
  obtain ⟨h, hs⟩ := List.append_inj h (by simp only [List.length_append, hd_len, lab_len, ev_len])
  obtain ⟨h, hx⟩ := List.append_inj h (by simp only [List.length_append, hd_len, lab_len])
  obtain ⟨h, hl⟩ := List.append_inj h (by simp only [hd_len])
  exact ⟨h, hl, hx, hs⟩
theorem same_co {m : Ms} (h : sameM m (partsM m) = true) (h5 : hco m.k = false) : m.co = 0 := by
  have := (hd_injM ((sameM_iff _ _).1 h)).1
  unfold Ms.hd partsM at this
  rw [h5] at this
  simp only [List.cons.injEq, Value.int.injEq, true_and, and_true, Bool.false_eq_true, if_false] at this
  exact this.2.1
set_option maxRecDepth 20000 in
set_option maxHeartbeats 8000000 in
theorem rr_no (m : Ms) (ho : Ms.Lt m) (W : World) (e1 : (m.k == 1) = false) (e2 : (m.k == 2) = false) (e3 : (m.k == 3) = false) (e4 : (m.k == 4) = false) (e5 : (m.k == 5) = false) (e6 : (m.k == 6) = false) (e7 : (m.k == 7) = false) (e8 : (m.k == 8) = false) (e9 : (m.k == 9) = false) (e10 : (m.k == 10) = false) : Calls Tryz.prog 11 #[.agg (Ms.plain m).toArray] W fun e W' => e = .returned (.bool (false && sameM m (zM m.k))) ∧ Below W.heap.size W W' := by
  have bA := Blk.new W 44 (Ms.plain m).toArray
  have hB0 := (Below.refl W.heap.size W).alloc (Nat.le_refl _) (.cells (Ms.plain m).toArray 44)
  obtain ⟨w1, hw1⟩ : ∃ w1, w1 = W.alloc (.cells (Ms.plain m).toArray 44) := ⟨_, rfl⟩
  have hs1 : w1.heap.size = W.heap.size + 1 := by rw [hw1]; simp
  rw [← hw1] at bA hB0
  have HW1 := Lib.hid hw1
  have HA := Lib.hid bA
  have HB := Lib.hid hB0
  have HS1 := Lib.hid hs1
  have HO := Lib.hid ho
  obtain ⟨_, rl, rx, rs, c0, c1, c2, c3, c4⟩ := pm_all bA
  clear bA hB0 hw1 hs1 ho
  go_enter Tryz.func11, Tryz.ntmps11
  go_upto_region 1 with fail
  rw [← HW1.out]
  clear HW1
  go_upto_region 2 with (first | (refine wpList_build_lit (Ms.plain (zM m.k)).toArray rfl 44 _ rfl (built_rzM m.k) ?_) | (refine wpList_store_blk rfl 44 _ _ rfl w1.heap.size 44 zrmA (Ms.plain (zM m.k)).toArray rfl rfl (Blk.new' rfl) (rminfoA _) (zrm_siz _) (pm_one _) ?_; intro hy))
  have hbn : Below w1.heap.size w1 ((w1.alloc (.cells zrmA 44)).setRow w1.heap.size (Ms.plain (zM m.k)).toArray) := below_setRow ((Below.refl _ _).alloc (Nat.le_refl _) _) (Nat.le_refl _) _
  obtain ⟨w2, hw2⟩ : ∃ w2, w2 = (w1.alloc (.cells zrmA 44)).setRow w1.heap.size (Ms.plain (zM m.k)).toArray := ⟨_, rfl⟩
  rw [← hw2] at hbn hy ⊢
  obtain ⟨p, hp⟩ : ∃ p, p = w1.heap.size := ⟨_, rfl⟩
  rw [← hp] at hy ⊢
  have hpS : p = W.heap.size + 1 := hp.trans HS1.out
  have HA2 := Lib.hid (HA.out.next hbn)
  have HB2 := Lib.hid (HB.out.trans (hbn.mono HB.out.size))
  have HY := Lib.hid hy
  have HPS := Lib.hid hpS
  have hp1 : W.heap.size < p := by omega
  obtain ⟨_, rl, rx, rs, c0, c1, c2, c3, c4⟩ := pm_all HA2.out
  clear hw2 hp hbn hy HA HB HS1 hpS
  clear rl rx rs c1 c2 c3 c4
  go_wp2_with fail
  go_ret
  exact ⟨rfl, HB2.out⟩
set_option maxRecDepth 20000 in
set_option maxHeartbeats 8000000 in
theorem rr_lab (m : Ms) (ho : Ms.Lt m) (W : World) (e1 : (m.k == 1) = true) (e2 : (m.k == 2) = false) (e3 : (m.k == 3) = false) (e4 : (m.k == 4) = false) (e5 : (m.k == 5) = false) (e6 : (m.k == 6) = false) (e7 : (m.k == 7) = false) (e8 : (m.k == 8) = false) (e9 : (m.k == 9) = false) (e10 : (m.k == 10) = false) : Calls Tryz.prog 11 #[.agg (Ms.plain m).toArray] W fun e W' => e = .returned (.bool (rightL m.l && sameM m { zM m.k with l := m.l })) ∧ Below W.heap.size W W' := by
  have bA := Blk.new W 44 (Ms.plain m).toArray
  have hB0 := (Below.refl W.heap.size W).alloc (Nat.le_refl _) (.cells (Ms.plain m).toArray 44)
  obtain ⟨w1, hw1⟩ : ∃ w1, w1 = W.alloc (.cells (Ms.plain m).toArray 44) := ⟨_, rfl⟩
  have hs1 : w1.heap.size = W.heap.size + 1 := by rw [hw1]; simp
  rw [← hw1] at bA hB0
  have HW1 := Lib.hid hw1
  have HA := Lib.hid bA
  have HB := Lib.hid hB0
  have HS1 := Lib.hid hs1
  have HO := Lib.hid ho
  obtain ⟨_, rl, rx, rs, c0, c1, c2, c3, c4⟩ := pm_all bA
  clear bA hB0 hw1 hs1 ho
  go_enter Tryz.func11, Tryz.ntmps11
  go_upto_region 1 with fail
  rw [← HW1.out]
  clear HW1
  go_upto_region 2 with (first | (refine wpList_build_lit (Ms.plain (zM m.k)).toArray rfl 44 _ rfl (built_rzM m.k) ?_) | (refine wpList_store_blk rfl 44 _ _ rfl w1.heap.size 44 zrmA (Ms.plain (zM m.k)).toArray rfl rfl (Blk.new' rfl) (rminfoA _) (zrm_siz _) (pm_one _) ?_; intro hy))
  have hbn : Below w1.heap.size w1 ((w1.alloc (.cells zrmA 44)).setRow w1.heap.size (Ms.plain (zM m.k)).toArray) := below_setRow ((Below.refl _ _).alloc (Nat.le_refl _) _) (Nat.le_refl _) _
  obtain ⟨w2, hw2⟩ : ∃ w2, w2 = (w1.alloc (.cells zrmA 44)).setRow w1.heap.size (Ms.plain (zM m.k)).toArray := ⟨_, rfl⟩
  rw [← hw2] at hbn hy ⊢
  obtain ⟨p, hp⟩ : ∃ p, p = w1.heap.size := ⟨_, rfl⟩
  rw [← hp] at hy ⊢
  have hpS : p = W.heap.size + 1 := hp.trans HS1.out
  have HA2 := Lib.hid (HA.out.next hbn)
  have HB2 := Lib.hid (HB.out.trans (hbn.mono HB.out.size))
  have HY := Lib.hid hy
  have HPS := Lib.hid hpS
  have hp1 : W.heap.size < p := by omega
  obtain ⟨_, rl, rx, rs, c0, c1, c2, c3, c4⟩ := pm_all HA2.out
  clear hw2 hp hbn hy HA HB HS1 hpS
  clear rx rs c1 c2 c3 c4
  go_upto_region 5 with fail
  clear c0
  refine wp_region_tree (S := (fun w' => w'.rangeAt W.heap.size 5 m.l.cells)) (.take 0 (.take 1 (.take 2 (.take 3 (.take 5 (.one 4 (.one 6 (.take 7 .nil)))))))) 9999 (by kernel_rfl) (by kernel_rfl) (by kernel_rfl) (by kernel_rfl) (by kernel_rfl) (fun _ _ d _ _ h => by cases d <;> exact h) rl (fun hHeld => ?_); simp only [Tree.map, List.getElem?_toArray, List.getElem?_cons_zero, List.getElem?_cons_succ]
  (repeat (first | (refine wpTree.take (v := undef) (Or.inr ⟨by rfl, rfl⟩) ?_; simp only [Act.put, List.setIfInBounds_toArray, List.set_cons_zero, List.set_cons_succ]) | (refine wpTree.take (v := .agg (Lab.cells ?_).toArray) (yieldsIf_load_mid rfl 38 _ rfl _ _ rfl (Lab.cells _) _ ?_ Tryz.underlying38 rfl (rlinfo _)) ?_; rotate_left; (focus (intro _ hS; exact hS)); simp only [Act.put, List.setIfInBounds_toArray, List.set_cons_zero, List.set_cons_succ]) | (refine wpTree.take (v := ?_) (Or.inl ⟨by rfl, ?_⟩) ?_; rotate_left; (focus (intro _ hS; (try dsimp only at hS); go_split_ands; (try subst hS); go_simp; (try (with_reducible rfl)); done)); simp only [Act.put, List.setIfInBounds_toArray, List.set_cons_zero, List.set_cons_succ])))
  refine wpTree.one (fun K hK => ?_)
  go_simp
  go_at_call 50
  refine (rright5_any m.l HO.out.lf HO.out.ln _).mono ?_
  rintro e w3 ⟨rfl, hb⟩
  have hb23 : Below w2.heap.size w2 w3 := (Below.refl _ _).drew.trans hb
  have hplt : p < w2.heap.size := HY.out.lt
  have hy3 := HY.out.next hb23
  have hA3 := HA2.out.next hb23
  have hb23p : Below p w2 w3 := hb23.mono (Nat.le_of_lt hplt)
  refine hK.out _ _ (pm_all hA3).2.1 (fun _ => ?_)
  clear hK K hb hHeld
  (try simp only [Act.put, List.setIfInBounds_toArray, List.set_cons_zero, List.set_cons_succ])
  have hth := hy3.thereT (o := 5) (n := (m.l.cells).toArray.size) (by rw [List.size_toArray, List.size_toArray, pm_len, lab_len]; omega)
  refine wpTree.one (fun K hK => ?_)
  rw [if_pos (by rfl)]
  refine wp_store_mid 38 _ _ rfl p 5 (m.l.cells).toArray rfl rfl hth (rlinfoA _) (lab_one _) ?_
  show K _ (w3.setCells p 5 (m.l.cells))
  have hb4 : Below p w2 (w3.setCells p 5 (m.l.cells)) := setCells_below (Nat.le_refl _) _ _ _ hb23p
  have hy4 := pm_setL hy3 m.l
  obtain ⟨w4, hw4⟩ : ∃ w4, w4 = w3.setCells p 5 (m.l.cells) := ⟨_, rfl⟩
  rw [← hw4] at hb4 hy4 ⊢
  clear hw4
  refine hK.out _ _ (pm_all (blk_below HA2.out hb4 hp1)).2.1 (fun _ => ?_)
  clear hK K
  (try simp only [Act.put, List.setIfInBounds_toArray, List.set_cons_zero, List.set_cons_succ])
  (repeat (first | (refine wpTree.take (v := undef) (Or.inr ⟨by rfl, rfl⟩) ?_; simp only [Act.put, List.setIfInBounds_toArray, List.set_cons_zero, List.set_cons_succ]) | (refine wpTree.take (v := ?_) (Or.inl ⟨by rfl, ?_⟩) ?_; rotate_left; (focus (intro _ hS; (try dsimp only at hS); go_split_ands; (try subst hS); go_simp; (try (with_reducible rfl)); done)); simp only [Act.put, List.setIfInBounds_toArray, List.set_cons_zero, List.set_cons_succ])))
  refine wpTree.done ?_
  clear hth hy3 hA3 hb23 hb23p hplt rl
  have hZk : ({ zM m.k with l := m.l } : Ms) = { zM m.k with l := m.l } := rfl
  have hbp : Below p w2 w4 := hb4
  have HZ := Lib.hid (show Blk w4 p 44 (Ms.plain { zM m.k with l := m.l }).toArray from hy4)
  have HBF := Lib.hid (HB2.out.trans (hbp.mono (Nat.le_of_lt hp1)))
  have HAF := Lib.hid (blk_below HA2.out hbp hp1)
  have rz := HZ.out.range
  have ra := HAF.out.range
  clear hbp HA2 HB2 HY
  obtain ⟨ok, hok⟩ : ∃ ok, ok = rightL m.l := ⟨_, rfl⟩
  have HOK := Lib.hid hok
  rw [← hok]
  clear hok hZk hb4 hy4
  cases ok with
  | false =>
    clear rz ra
    go_wp2_with fail
    go_ret
    exact ⟨by rw [← HOK.out]; rfl, HBF.out⟩
  | true =>
    have hq := fun w => eq_rmsg m { zM m.k with l := m.l } w
    go_wp2_with (first | (refine wpList_load_midg (by rfl) 44 _ rfl _ _ rfl (Ms.plain ?_) _ ?_ Tryz.underlying44 rfl (rminfo _) ?_; rotate_left; (focus assumption)))
    go_ret
    exact ⟨by rw [← HOK.out]; first | rfl | simp, HBF.out⟩
set_option maxRecDepth 20000 in
set_option maxHeartbeats 8000000 in
theorem rr_ev2 (m : Ms) (ho : Ms.Lt m) (W : World) (e1 : (m.k == 1) = false) (e2 : (m.k == 2) = true) (e3 : (m.k == 3) = false) (e4 : (m.k == 4) = false) (e5 : (m.k == 5) = false) (e6 : (m.k == 6) = false) (e7 : (m.k == 7) = false) (e8 : (m.k == 8) = false) (e9 : (m.k == 9) = false) (e10 : (m.k == 10) = false) : Calls Tryz.prog 11 #[.agg (Ms.plain m).toArray] W fun e W' => e = .returned (.bool (rightE m.x && sameM m { zM m.k with x := m.x })) ∧ Below W.heap.size W W' := by
  have bA := Blk.new W 44 (Ms.plain m).toArray
  have hB0 := (Below.refl W.heap.size W).alloc (Nat.le_refl _) (.cells (Ms.plain m).toArray 44)
  obtain ⟨w1, hw1⟩ : ∃ w1, w1 = W.alloc (.cells (Ms.plain m).toArray 44) := ⟨_, rfl⟩
  have hs1 : w1.heap.size = W.heap.size + 1 := by rw [hw1]; simp
  rw [← hw1] at bA hB0
  have HW1 := Lib.hid hw1
  have HA := Lib.hid bA
  have HB := Lib.hid hB0
  have HS1 := Lib.hid hs1
  have HO := Lib.hid ho
  obtain ⟨_, rl, rx, rs, c0, c1, c2, c3, c4⟩ := pm_all bA
  clear bA hB0 hw1 hs1 ho
  go_enter Tryz.func11, Tryz.ntmps11
  go_upto_region 1 with fail
  rw [← HW1.out]
  clear HW1
  go_upto_region 2 with (first | (refine wpList_build_lit (Ms.plain (zM m.k)).toArray rfl 44 _ rfl (built_rzM m.k) ?_) | (refine wpList_store_blk rfl 44 _ _ rfl w1.heap.size 44 zrmA (Ms.plain (zM m.k)).toArray rfl rfl (Blk.new' rfl) (rminfoA _) (zrm_siz _) (pm_one _) ?_; intro hy))
  have hbn : Below w1.heap.size w1 ((w1.alloc (.cells zrmA 44)).setRow w1.heap.size (Ms.plain (zM m.k)).toArray) := below_setRow ((Below.refl _ _).alloc (Nat.le_refl _) _) (Nat.le_refl _) _
  obtain ⟨w2, hw2⟩ : ∃ w2, w2 = (w1.alloc (.cells zrmA 44)).setRow w1.heap.size (Ms.plain (zM m.k)).toArray := ⟨_, rfl⟩
  rw [← hw2] at hbn hy ⊢
  obtain ⟨p, hp⟩ : ∃ p, p = w1.heap.size := ⟨_, rfl⟩
  rw [← hp] at hy ⊢
  have hpS : p = W.heap.size + 1 := hp.trans HS1.out
  have HA2 := Lib.hid (HA.out.next hbn)
  have HB2 := Lib.hid (HB.out.trans (hbn.mono HB.out.size))
  have HY := Lib.hid hy
  have HPS := Lib.hid hpS
  have hp1 : W.heap.size < p := by omega
  obtain ⟨_, rl, rx, rs, c0, c1, c2, c3, c4⟩ := pm_all HA2.out
  clear hw2 hp hbn hy HA HB HS1 hpS
  clear rl rs c1 c2 c3 c4
  go_upto_region 8 with fail
  clear c0
  refine wp_region_tree (S := (fun w' => w'.rangeAt W.heap.size 22 m.x.item)) (.take 0 (.take 1 (.take 2 (.take 3 (.take 5 (.one 4 (.one 6 (.take 7 .nil)))))))) 9999 (by kernel_rfl) (by kernel_rfl) (by kernel_rfl) (by kernel_rfl) (by kernel_rfl) (fun _ _ d _ _ h => by cases d <;> exact h) rx (fun hHeld => ?_); simp only [Tree.map, List.getElem?_toArray, List.getElem?_cons_zero, List.getElem?_cons_succ]
  (repeat (first | (refine wpTree.take (v := undef) (Or.inr ⟨by rfl, rfl⟩) ?_; simp only [Act.put, List.setIfInBounds_toArray, List.set_cons_zero, List.set_cons_succ]) | (refine wpTree.take (v := .agg (Ev.item ?_).toArray) (yieldsIf_load_mid rfl 41 _ rfl _ _ rfl (Ev.item _) _ ?_ Tryz.underlying41 rfl (einfoL6 _)) ?_; rotate_left; (focus (intro _ hS; exact hS)); simp only [Act.put, List.setIfInBounds_toArray, List.set_cons_zero, List.set_cons_succ]) | (refine wpTree.take (v := ?_) (Or.inl ⟨by rfl, ?_⟩) ?_; rotate_left; (focus (intro _ hS; (try dsimp only at hS); go_split_ands; (try subst hS); go_simp; (try (with_reducible rfl)); done)); simp only [Act.put, List.setIfInBounds_toArray, List.set_cons_zero, List.set_cons_succ])))
  refine wpTree.one (fun K hK => ?_)
  go_simp
  go_at_call 51
  refine (rright6_any m.x HO.out.xf HO.out.xn _).mono ?_
  rintro e w3 ⟨rfl, hb⟩
  have hb23 : Below w2.heap.size w2 w3 := (Below.refl _ _).drew.trans hb
  have hplt : p < w2.heap.size := HY.out.lt
  have hy3 := HY.out.next hb23
  have hA3 := HA2.out.next hb23
  have hb23p : Below p w2 w3 := hb23.mono (Nat.le_of_lt hplt)
  refine hK.out _ _ (pm_all hA3).2.2.1 (fun _ => ?_)
  clear hK K hb hHeld
  (try simp only [Act.put, List.setIfInBounds_toArray, List.set_cons_zero, List.set_cons_succ])
  have hth := hy3.thereT (o := 22) (n := (m.x.item).toArray.size) (by rw [List.size_toArray, List.size_toArray, pm_len, item_len]; omega)
  refine wpTree.one (fun K hK => ?_)
  rw [if_pos (by rfl)]
  refine wp_store_mid 41 _ _ rfl p 22 (m.x.item).toArray rfl rfl hth (einfoA6 _) (item_one _) ?_
  show K _ (w3.setCells p 22 (m.x.item))
  have hb4 : Below p w2 (w3.setCells p 22 (m.x.item)) := setCells_below (Nat.le_refl _) _ _ _ hb23p
  have hy4 := pm_setX hy3 m.x
  obtain ⟨w4, hw4⟩ : ∃ w4, w4 = w3.setCells p 22 (m.x.item) := ⟨_, rfl⟩
  rw [← hw4] at hb4 hy4 ⊢
  clear hw4
  refine hK.out _ _ (pm_all (blk_below HA2.out hb4 hp1)).2.2.1 (fun _ => ?_)
  clear hK K
  (try simp only [Act.put, List.setIfInBounds_toArray, List.set_cons_zero, List.set_cons_succ])
  (repeat (first | (refine wpTree.take (v := undef) (Or.inr ⟨by rfl, rfl⟩) ?_; simp only [Act.put, List.setIfInBounds_toArray, List.set_cons_zero, List.set_cons_succ]) | (refine wpTree.take (v := ?_) (Or.inl ⟨by rfl, ?_⟩) ?_; rotate_left; (focus (intro _ hS; (try dsimp only at hS); go_split_ands; (try subst hS); go_simp; (try (with_reducible rfl)); done)); simp only [Act.put, List.setIfInBounds_toArray, List.set_cons_zero, List.set_cons_succ])))
  refine wpTree.done ?_
  clear hth hy3 hA3 hb23 hb23p hplt rx
  have hZk : ({ zM m.k with x := m.x } : Ms) = { zM m.k with x := m.x } := rfl
  have hbp : Below p w2 w4 := hb4
  have HZ := Lib.hid (show Blk w4 p 44 (Ms.plain { zM m.k with x := m.x }).toArray from hy4)
  have HBF := Lib.hid (HB2.out.trans (hbp.mono (Nat.le_of_lt hp1)))
  have HAF := Lib.hid (blk_below HA2.out hbp hp1)
  have rz := HZ.out.range
  have ra := HAF.out.range
  clear hbp HA2 HB2 HY
  obtain ⟨ok, hok⟩ : ∃ ok, ok = rightE m.x := ⟨_, rfl⟩
  have HOK := Lib.hid hok
  rw [← hok]
  clear hok hZk hb4 hy4
  cases ok with
  | false =>
    clear rz ra
    go_wp2_with fail
    go_ret
    exact ⟨by rw [← HOK.out]; rfl, HBF.out⟩
  | true =>
    have hq := fun w => eq_rmsg m { zM m.k with x := m.x } w
    go_wp2_with (first | (refine wpList_load_midg (by rfl) 44 _ rfl _ _ rfl (Ms.plain ?_) _ ?_ Tryz.underlying44 rfl (rminfo _) ?_; rotate_left; (focus assumption)))
    go_ret
    exact ⟨by rw [← HOK.out]; first | rfl | simp, HBF.out⟩
set_option maxRecDepth 20000 in
set_option maxHeartbeats 8000000 in
theorem rr_ev3 (m : Ms) (ho : Ms.Lt m) (W : World) (e1 : (m.k == 1) = false) (e2 : (m.k == 2) = false) (e3 : (m.k == 3) = true) (e4 : (m.k == 4) = false) (e5 : (m.k == 5) = false) (e6 : (m.k == 6) = false) (e7 : (m.k == 7) = false) (e8 : (m.k == 8) = false) (e9 : (m.k == 9) = false) (e10 : (m.k == 10) = false) : Calls Tryz.prog 11 #[.agg (Ms.plain m).toArray] W fun e W' => e = .returned (.bool (rightE m.x && sameM m { zM m.k with x := m.x })) ∧ Below W.heap.size W W' := by
  have bA := Blk.new W 44 (Ms.plain m).toArray
  have hB0 := (Below.refl W.heap.size W).alloc (Nat.le_refl _) (.cells (Ms.plain m).toArray 44)
  obtain ⟨w1, hw1⟩ : ∃ w1, w1 = W.alloc (.cells (Ms.plain m).toArray 44) := ⟨_, rfl⟩
  have hs1 : w1.heap.size = W.heap.size + 1 := by rw [hw1]; simp
  rw [← hw1] at bA hB0
  have HW1 := Lib.hid hw1
  have HA := Lib.hid bA
  have HB := Lib.hid hB0
  have HS1 := Lib.hid hs1
  have HO := Lib.hid ho
  obtain ⟨_, rl, rx, rs, c0, c1, c2, c3, c4⟩ := pm_all bA
  clear bA hB0 hw1 hs1 ho
  go_enter Tryz.func11, Tryz.ntmps11
  go_upto_region 1 with fail
  rw [← HW1.out]
  clear HW1
  go_upto_region 2 with (first | (refine wpList_build_lit (Ms.plain (zM m.k)).toArray rfl 44 _ rfl (built_rzM m.k) ?_) | (refine wpList_store_blk rfl 44 _ _ rfl w1.heap.size 44 zrmA (Ms.plain (zM m.k)).toArray rfl rfl (Blk.new' rfl) (rminfoA _) (zrm_siz _) (pm_one _) ?_; intro hy))
  have hbn : Below w1.heap.size w1 ((w1.alloc (.cells zrmA 44)).setRow w1.heap.size (Ms.plain (zM m.k)).toArray) := below_setRow ((Below.refl _ _).alloc (Nat.le_refl _) _) (Nat.le_refl _) _
  obtain ⟨w2, hw2⟩ : ∃ w2, w2 = (w1.alloc (.cells zrmA 44)).setRow w1.heap.size (Ms.plain (zM m.k)).toArray := ⟨_, rfl⟩
  rw [← hw2] at hbn hy ⊢
  obtain ⟨p, hp⟩ : ∃ p, p = w1.heap.size := ⟨_, rfl⟩
  rw [← hp] at hy ⊢
  have hpS : p = W.heap.size + 1 := hp.trans HS1.out
  have HA2 := Lib.hid (HA.out.next hbn)
  have HB2 := Lib.hid (HB.out.trans (hbn.mono HB.out.size))
  have HY := Lib.hid hy
  have HPS := Lib.hid hpS
  have hp1 : W.heap.size < p := by omega
  obtain ⟨_, rl, rx, rs, c0, c1, c2, c3, c4⟩ := pm_all HA2.out
  clear hw2 hp hbn hy HA HB HS1 hpS
  clear rl rs c1 c2 c3 c4
  go_upto_region 8 with fail
  clear c0
  refine wp_region_tree (S := (fun w' => w'.rangeAt W.heap.size 22 m.x.item)) (.take 0 (.take 1 (.take 2 (.take 3 (.take 5 (.one 4 (.one 6 (.take 7 .nil)))))))) 9999 (by kernel_rfl) (by kernel_rfl) (by kernel_rfl) (by kernel_rfl) (by kernel_rfl) (fun _ _ d _ _ h => by cases d <;> exact h) rx (fun hHeld => ?_); simp only [Tree.map, List.getElem?_toArray, List.getElem?_cons_zero, List.getElem?_cons_succ]
  (repeat (first | (refine wpTree.take (v := undef) (Or.inr ⟨by rfl, rfl⟩) ?_; simp only [Act.put, List.setIfInBounds_toArray, List.set_cons_zero, List.set_cons_succ]) | (refine wpTree.take (v := .agg (Ev.item ?_).toArray) (yieldsIf_load_mid rfl 41 _ rfl _ _ rfl (Ev.item _) _ ?_ Tryz.underlying41 rfl (einfoL6 _)) ?_; rotate_left; (focus (intro _ hS; exact hS)); simp only [Act.put, List.setIfInBounds_toArray, List.set_cons_zero, List.set_cons_succ]) | (refine wpTree.take (v := ?_) (Or.inl ⟨by rfl, ?_⟩) ?_; rotate_left; (focus (intro _ hS; (try dsimp only at hS); go_split_ands; (try subst hS); go_simp; (try (with_reducible rfl)); done)); simp only [Act.put, List.setIfInBounds_toArray, List.set_cons_zero, List.set_cons_succ])))
  refine wpTree.one (fun K hK => ?_)
  go_simp
  go_at_call 51
  refine (rright6_any m.x HO.out.xf HO.out.xn _).mono ?_
  rintro e w3 ⟨rfl, hb⟩
  have hb23 : Below w2.heap.size w2 w3 := (Below.refl _ _).drew.trans hb
  have hplt : p < w2.heap.size := HY.out.lt
  have hy3 := HY.out.next hb23
  have hA3 := HA2.out.next hb23
  have hb23p : Below p w2 w3 := hb23.mono (Nat.le_of_lt hplt)
  refine hK.out _ _ (pm_all hA3).2.2.1 (fun _ => ?_)
  clear hK K hb hHeld
  (try simp only [Act.put, List.setIfInBounds_toArray, List.set_cons_zero, List.set_cons_succ])
  have hth := hy3.thereT (o := 22) (n := (m.x.item).toArray.size) (by rw [List.size_toArray, List.size_toArray, pm_len, item_len]; omega)
  refine wpTree.one (fun K hK => ?_)
  rw [if_pos (by rfl)]
  refine wp_store_mid 41 _ _ rfl p 22 (m.x.item).toArray rfl rfl hth (einfoA6 _) (item_one _) ?_
  show K _ (w3.setCells p 22 (m.x.item))
  have hb4 : Below p w2 (w3.setCells p 22 (m.x.item)) := setCells_below (Nat.le_refl _) _ _ _ hb23p
  have hy4 := pm_setX hy3 m.x
  obtain ⟨w4, hw4⟩ : ∃ w4, w4 = w3.setCells p 22 (m.x.item) := ⟨_, rfl⟩
  rw [← hw4] at hb4 hy4 ⊢
  clear hw4
  refine hK.out _ _ (pm_all (blk_below HA2.out hb4 hp1)).2.2.1 (fun _ => ?_)
  clear hK K
  (try simp only [Act.put, List.setIfInBounds_toArray, List.set_cons_zero, List.set_cons_succ])
  (repeat (first | (refine wpTree.take (v := undef) (Or.inr ⟨by rfl, rfl⟩) ?_; simp only [Act.put, List.setIfInBounds_toArray, List.set_cons_zero, List.set_cons_succ]) | (refine wpTree.take (v := ?_) (Or.inl ⟨by rfl, ?_⟩) ?_; rotate_left; (focus (intro _ hS; (try dsimp only at hS); go_split_ands; (try subst hS); go_simp; (try (with_reducible rfl)); done)); simp only [Act.put, List.setIfInBounds_toArray, List.set_cons_zero, List.set_cons_succ])))
  refine wpTree.done ?_
  clear hth hy3 hA3 hb23 hb23p hplt rx
  have hZk : ({ zM m.k with x := m.x } : Ms) = { zM m.k with x := m.x } := rfl
  have hbp : Below p w2 w4 := hb4
  have HZ := Lib.hid (show Blk w4 p 44 (Ms.plain { zM m.k with x := m.x }).toArray from hy4)
  have HBF := Lib.hid (HB2.out.trans (hbp.mono (Nat.le_of_lt hp1)))
  have HAF := Lib.hid (blk_below HA2.out hbp hp1)
  have rz := HZ.out.range
  have ra := HAF.out.range
  clear hbp HA2 HB2 HY
  obtain ⟨ok, hok⟩ : ∃ ok, ok = rightE m.x := ⟨_, rfl⟩
  have HOK := Lib.hid hok
  rw [← hok]
  clear hok hZk hb4 hy4
  cases ok with
  | false =>
    clear rz ra
    go_wp2_with fail
    go_ret
    exact ⟨by rw [← HOK.out]; rfl, HBF.out⟩
  | true =>
    have hq := fun w => eq_rmsg m { zM m.k with x := m.x } w
    go_wp2_with (first | (refine wpList_load_midg (by rfl) 44 _ rfl _ _ rfl (Ms.plain ?_) _ ?_ Tryz.underlying44 rfl (rminfo _) ?_; rotate_left; (focus assumption)))
    go_ret
    exact ⟨by rw [← HOK.out]; first | rfl | simp, HBF.out⟩
set_option maxRecDepth 20000 in
set_option maxHeartbeats 8000000 in
theorem rr_sel4 (m : Ms) (ho : Ms.Lt m) (W : World) (e1 : (m.k == 1) = false) (e2 : (m.k == 2) = false) (e3 : (m.k == 3) = false) (e4 : (m.k == 4) = true) (e5 : (m.k == 5) = false) (e6 : (m.k == 6) = false) (e7 : (m.k == 7) = false) (e8 : (m.k == 8) = false) (e9 : (m.k == 9) = false) (e10 : (m.k == 10) = false) : Calls Tryz.prog 11 #[.agg (Ms.plain m).toArray] W fun e W' => e = .returned (.bool (decide (0 < m.se) && decide (m.se < 13) && sameM m { zM m.k with se := m.se })) ∧ Below W.heap.size W W' := by
  have bA := Blk.new W 44 (Ms.plain m).toArray
  have hB0 := (Below.refl W.heap.size W).alloc (Nat.le_refl _) (.cells (Ms.plain m).toArray 44)
  obtain ⟨w1, hw1⟩ : ∃ w1, w1 = W.alloc (.cells (Ms.plain m).toArray 44) := ⟨_, rfl⟩
  have hs1 : w1.heap.size = W.heap.size + 1 := by rw [hw1]; simp
  rw [← hw1] at bA hB0
  have HW1 := Lib.hid hw1
  have HA := Lib.hid bA
  have HB := Lib.hid hB0
  have HS1 := Lib.hid hs1
  have HO := Lib.hid ho
  obtain ⟨_, rl, rx, rs, c0, c1, c2, c3, c4⟩ := pm_all bA
  clear bA hB0 hw1 hs1 ho
  go_enter Tryz.func11, Tryz.ntmps11
  go_upto_region 1 with fail
  rw [← HW1.out]
  clear HW1
  go_upto_region 2 with (first | (refine wpList_build_lit (Ms.plain (zM m.k)).toArray rfl 44 _ rfl (built_rzM m.k) ?_) | (refine wpList_store_blk rfl 44 _ _ rfl w1.heap.size 44 zrmA (Ms.plain (zM m.k)).toArray rfl rfl (Blk.new' rfl) (rminfoA _) (zrm_siz _) (pm_one _) ?_; intro hy))
  have hbn : Below w1.heap.size w1 ((w1.alloc (.cells zrmA 44)).setRow w1.heap.size (Ms.plain (zM m.k)).toArray) := below_setRow ((Below.refl _ _).alloc (Nat.le_refl _) _) (Nat.le_refl _) _
  obtain ⟨w2, hw2⟩ : ∃ w2, w2 = (w1.alloc (.cells zrmA 44)).setRow w1.heap.size (Ms.plain (zM m.k)).toArray := ⟨_, rfl⟩
  rw [← hw2] at hbn hy ⊢
  obtain ⟨p, hp⟩ : ∃ p, p = w1.heap.size := ⟨_, rfl⟩
  rw [← hp] at hy ⊢
  have hpS : p = W.heap.size + 1 := hp.trans HS1.out
  have HA2 := Lib.hid (HA.out.next hbn)
  have HB2 := Lib.hid (HB.out.trans (hbn.mono HB.out.size))
  have HY := Lib.hid hy
  have HPS := Lib.hid hpS
  have hp1 : W.heap.size < p := by omega
  obtain ⟨_, rl, rx, rs, c0, c1, c2, c3, c4⟩ := pm_all HA2.out
  clear hw2 hp hbn hy HA HB HS1 hpS
  clear rl rx rs c2 c3 c4
  go_upto_region 14 with fail
  clear c0
  cases hd1 : decide (0 < m.se) with
  | false =>
    refine wp_region_tree (S := (fun w' => w'.cell? ⟨W.heap.size, 1, none⟩ = some (.int .i64 m.se))) (.take 0 (.take 1 (.take 2 (.take 3 (.take 4 (.take 5 (.take 6 (.take 7 (.take 8 (.take 9 (.take 10 (.one 11 (.take 12 .nil))))))))))))) 9999 (by kernel_rfl) (by kernel_rfl) (by kernel_rfl) (by kernel_rfl) (by kernel_rfl) (fun _ _ d _ _ h => by cases d <;> exact h) c1 (fun hHeld => ?_); simp only [Tree.map, List.getElem?_toArray, List.getElem?_cons_zero, List.getElem?_cons_succ]
    (repeat (first | (refine wpTree.take (v := undef) (Or.inr ⟨by rfl, rfl⟩) ?_; simp only [Act.put, List.setIfInBounds_toArray, List.set_cons_zero, List.set_cons_succ]) | (refine wpTree.take (v := ?_) (Or.inl ⟨by rfl, ?_⟩) ?_; rotate_left; (focus (intro _ hS; (try dsimp only at hS); go_split_ands; (try subst hS); go_simp; (try (with_reducible rfl)); done)); simp only [Act.put, List.setIfInBounds_toArray, List.set_cons_zero, List.set_cons_succ])))
    obtain ⟨wd, hwd⟩ : ∃ wd, wd = w2.drew := ⟨_, rfl⟩
    have hbd : Below p w2 wd := by rw [hwd]; exact (Below.refl _ _).drew
    have hyd : Blk wd p 44 (Ms.plain (zM m.k)).toArray := by rw [hwd]; exact HY.out.drew
    rw [← hwd]
    clear hwd
    have hkA : wd.cell? ⟨p, 1, none⟩ = some (.int .i64 0) := (pm_all hyd).2.2.2.2.2.1
    have hfA := hyd.frozen 1
    refine wpTree.one (fun K hK => ?_)
    go_simp
    obtain ⟨w4, hw⟩ : ∃ w4, w4 = wd.setCell ⟨p, 1, none⟩ (.int .i64 m.se) := ⟨_, rfl⟩
    have hbw4 : Below p w2 w4 := by rw [hw]; exact Below.setCell (p := ⟨p, 1, none⟩) hbd (Nat.le_refl _) _
    have hyw4 : Blk w4 p 44 (Ms.plain { zM m.k with se := m.se }).toArray := by rw [hw]; exact pm_setH hyd (by omega) rfl rfl rfl rfl
    rw [← hw]
    clear hw hkA hfA
    refine hK.out _ _ ((hbw4.cell (p := ⟨W.heap.size, 1, none⟩) hp1).trans c1) (fun _ => ?_)
    clear hK K
    (try simp only [Act.put, List.setIfInBounds_toArray, List.set_cons_zero, List.set_cons_succ])
    (repeat (first | (refine wpTree.take (v := undef) (Or.inr ⟨by rfl, rfl⟩) ?_; simp only [Act.put, List.setIfInBounds_toArray, List.set_cons_zero, List.set_cons_succ]) | (refine wpTree.take (v := ?_) (Or.inl ⟨by rfl, ?_⟩) ?_; rotate_left; (focus (intro _ hS; (try dsimp only at hS); go_split_ands; (try subst hS); go_simp; (try (with_reducible rfl)); done)); simp only [Act.put, List.setIfInBounds_toArray, List.set_cons_zero, List.set_cons_succ])))
    refine wpTree.done ?_
    clear c1 hHeld hbd hyd
    have hbp : Below p w2 w4 := hbw4
    have HZ := Lib.hid (show Blk w4 p 44 (Ms.plain { zM m.k with se := m.se }).toArray from hyw4)
    have HBF := Lib.hid (HB2.out.trans (hbp.mono (Nat.le_of_lt hp1)))
    have HAF := Lib.hid (blk_below HA2.out hbp hp1)
    have rz := HZ.out.range
    have ra := HAF.out.range
    clear hbp HA2 HB2 HY
    clear hbw4 hyw4
    clear rz ra
    go_wp2_with fail
    go_ret
    exact ⟨by simp [hd1], HBF.out⟩
  | true =>
    cases hd2 : decide (m.se < 13) with
    | false =>
      refine wp_region_tree (S := (fun w' => w'.cell? ⟨W.heap.size, 1, none⟩ = some (.int .i64 m.se))) (.take 0 (.take 1 (.take 2 (.take 3 (.take 4 (.take 5 (.take 6 (.take 7 (.take 8 (.take 9 (.take 10 (.one 11 (.take 12 .nil))))))))))))) 9999 (by kernel_rfl) (by kernel_rfl) (by kernel_rfl) (by kernel_rfl) (by kernel_rfl) (fun _ _ d _ _ h => by cases d <;> exact h) c1 (fun hHeld => ?_); simp only [Tree.map, List.getElem?_toArray, List.getElem?_cons_zero, List.getElem?_cons_succ]
      (repeat (first | (refine wpTree.take (v := undef) (Or.inr ⟨by rfl, rfl⟩) ?_; simp only [Act.put, List.setIfInBounds_toArray, List.set_cons_zero, List.set_cons_succ]) | (refine wpTree.take (v := ?_) (Or.inl ⟨by rfl, ?_⟩) ?_; rotate_left; (focus (intro _ hS; (try dsimp only at hS); go_split_ands; (try subst hS); go_simp; (try (with_reducible rfl)); done)); simp only [Act.put, List.setIfInBounds_toArray, List.set_cons_zero, List.set_cons_succ])))
      obtain ⟨wd, hwd⟩ : ∃ wd, wd = w2.drew := ⟨_, rfl⟩
      have hbd : Below p w2 wd := by rw [hwd]; exact (Below.refl _ _).drew
      have hyd : Blk wd p 44 (Ms.plain (zM m.k)).toArray := by rw [hwd]; exact HY.out.drew
      rw [← hwd]
      clear hwd
      have hkA : wd.cell? ⟨p, 1, none⟩ = some (.int .i64 0) := (pm_all hyd).2.2.2.2.2.1
      have hfA := hyd.frozen 1
      refine wpTree.one (fun K hK => ?_)
      go_simp
      obtain ⟨w4, hw⟩ : ∃ w4, w4 = wd.setCell ⟨p, 1, none⟩ (.int .i64 m.se) := ⟨_, rfl⟩
      have hbw4 : Below p w2 w4 := by rw [hw]; exact Below.setCell (p := ⟨p, 1, none⟩) hbd (Nat.le_refl _) _
      have hyw4 : Blk w4 p 44 (Ms.plain { zM m.k with se := m.se }).toArray := by rw [hw]; exact pm_setH hyd (by omega) rfl rfl rfl rfl
      rw [← hw]
      clear hw hkA hfA
      refine hK.out _ _ ((hbw4.cell (p := ⟨W.heap.size, 1, none⟩) hp1).trans c1) (fun _ => ?_)
      clear hK K
      (try simp only [Act.put, List.setIfInBounds_toArray, List.set_cons_zero, List.set_cons_succ])
      (repeat (first | (refine wpTree.take (v := undef) (Or.inr ⟨by rfl, rfl⟩) ?_; simp only [Act.put, List.setIfInBounds_toArray, List.set_cons_zero, List.set_cons_succ]) | (refine wpTree.take (v := ?_) (Or.inl ⟨by rfl, ?_⟩) ?_; rotate_left; (focus (intro _ hS; (try dsimp only at hS); go_split_ands; (try subst hS); go_simp; (try (with_reducible rfl)); done)); simp only [Act.put, List.setIfInBounds_toArray, List.set_cons_zero, List.set_cons_succ])))
      refine wpTree.done ?_
      clear c1 hHeld hbd hyd
      have hbp : Below p w2 w4 := hbw4
      have HZ := Lib.hid (show Blk w4 p 44 (Ms.plain { zM m.k with se := m.se }).toArray from hyw4)
      have HBF := Lib.hid (HB2.out.trans (hbp.mono (Nat.le_of_lt hp1)))
      have HAF := Lib.hid (blk_below HA2.out hbp hp1)
      have rz := HZ.out.range
      have ra := HAF.out.range
      clear hbp HA2 HB2 HY
      clear hbw4 hyw4
      clear rz ra
      go_wp2_with fail
      go_ret
      exact ⟨by simp [hd1, hd2], HBF.out⟩
    | true =>
      refine wp_region_tree (S := (fun w' => w'.cell? ⟨W.heap.size, 1, none⟩ = some (.int .i64 m.se))) (.take 0 (.take 1 (.take 2 (.take 3 (.take 4 (.take 5 (.take 6 (.take 7 (.take 8 (.take 9 (.take 10 (.one 11 (.take 12 .nil))))))))))))) 9999 (by kernel_rfl) (by kernel_rfl) (by kernel_rfl) (by kernel_rfl) (by kernel_rfl) (fun _ _ d _ _ h => by cases d <;> exact h) c1 (fun hHeld => ?_); simp only [Tree.map, List.getElem?_toArray, List.getElem?_cons_zero, List.getElem?_cons_succ]
      (repeat (first | (refine wpTree.take (v := undef) (Or.inr ⟨by rfl, rfl⟩) ?_; simp only [Act.put, List.setIfInBounds_toArray, List.set_cons_zero, List.set_cons_succ]) | (refine wpTree.take (v := ?_) (Or.inl ⟨by rfl, ?_⟩) ?_; rotate_left; (focus (intro _ hS; (try dsimp only at hS); go_split_ands; (try subst hS); go_simp; (try (with_reducible rfl)); done)); simp only [Act.put, List.setIfInBounds_toArray, List.set_cons_zero, List.set_cons_succ])))
      obtain ⟨wd, hwd⟩ : ∃ wd, wd = w2.drew := ⟨_, rfl⟩
      have hbd : Below p w2 wd := by rw [hwd]; exact (Below.refl _ _).drew
      have hyd : Blk wd p 44 (Ms.plain (zM m.k)).toArray := by rw [hwd]; exact HY.out.drew
      rw [← hwd]
      clear hwd
      have hkA : wd.cell? ⟨p, 1, none⟩ = some (.int .i64 0) := (pm_all hyd).2.2.2.2.2.1
      have hfA := hyd.frozen 1
      refine wpTree.one (fun K hK => ?_)
      go_simp
      obtain ⟨w4, hw⟩ : ∃ w4, w4 = wd.setCell ⟨p, 1, none⟩ (.int .i64 m.se) := ⟨_, rfl⟩
      have hbw4 : Below p w2 w4 := by rw [hw]; exact Below.setCell (p := ⟨p, 1, none⟩) hbd (Nat.le_refl _) _
      have hyw4 : Blk w4 p 44 (Ms.plain { zM m.k with se := m.se }).toArray := by rw [hw]; exact pm_setH hyd (by omega) rfl rfl rfl rfl
      rw [← hw]
      clear hw hkA hfA
      refine hK.out _ _ ((hbw4.cell (p := ⟨W.heap.size, 1, none⟩) hp1).trans c1) (fun _ => ?_)
      clear hK K
      (try simp only [Act.put, List.setIfInBounds_toArray, List.set_cons_zero, List.set_cons_succ])
      (repeat (first | (refine wpTree.take (v := undef) (Or.inr ⟨by rfl, rfl⟩) ?_; simp only [Act.put, List.setIfInBounds_toArray, List.set_cons_zero, List.set_cons_succ]) | (refine wpTree.take (v := ?_) (Or.inl ⟨by rfl, ?_⟩) ?_; rotate_left; (focus (intro _ hS; (try dsimp only at hS); go_split_ands; (try subst hS); go_simp; (try (with_reducible rfl)); done)); simp only [Act.put, List.setIfInBounds_toArray, List.set_cons_zero, List.set_cons_succ])))
      refine wpTree.done ?_
      clear c1 hHeld hbd hyd
      have hbp : Below p w2 w4 := hbw4
      have HZ := Lib.hid (show Blk w4 p 44 (Ms.plain { zM m.k with se := m.se }).toArray from hyw4)
      have HBF := Lib.hid (HB2.out.trans (hbp.mono (Nat.le_of_lt hp1)))
      have HAF := Lib.hid (blk_below HA2.out hbp hp1)
      have rz := HZ.out.range
      have ra := HAF.out.range
      clear hbp HA2 HB2 HY
      clear hbw4 hyw4
      have hq := fun w => eq_rmsg m { zM m.k with se := m.se } w
      go_wp2_with (first | (refine wpList_load_midg (by rfl) 44 _ rfl _ _ rfl (Ms.plain ?_) _ ?_ Tryz.underlying44 rfl (rminfo _) ?_; rotate_left; (focus assumption)))
      go_ret
      exact ⟨by simp [hd1, hd2], HBF.out⟩
set_option maxRecDepth 20000 in
set_option maxHeartbeats 8000000 in
theorem rr_sel6 (m : Ms) (ho : Ms.Lt m) (W : World) (e1 : (m.k == 1) = false) (e2 : (m.k == 2) = false) (e3 : (m.k == 3) = false) (e4 : (m.k == 4) = false) (e5 : (m.k == 5) = false) (e6 : (m.k == 6) = true) (e7 : (m.k == 7) = false) (e8 : (m.k == 8) = false) (e9 : (m.k == 9) = false) (e10 : (m.k == 10) = false) : Calls Tryz.prog 11 #[.agg (Ms.plain m).toArray] W fun e W' => e = .returned (.bool (decide (0 < m.se) && decide (m.se < 13) && sameM m { zM m.k with se := m.se })) ∧ Below W.heap.size W W' := by
  have bA := Blk.new W 44 (Ms.plain m).toArray
  have hB0 := (Below.refl W.heap.size W).alloc (Nat.le_refl _) (.cells (Ms.plain m).toArray 44)
  obtain ⟨w1, hw1⟩ : ∃ w1, w1 = W.alloc (.cells (Ms.plain m).toArray 44) := ⟨_, rfl⟩
  have hs1 : w1.heap.size = W.heap.size + 1 := by rw [hw1]; simp
  rw [← hw1] at bA hB0
  have HW1 := Lib.hid hw1
  have HA := Lib.hid bA
  have HB := Lib.hid hB0
  have HS1 := Lib.hid hs1
  have HO := Lib.hid ho
  obtain ⟨_, rl, rx, rs, c0, c1, c2, c3, c4⟩ := pm_all bA
  clear bA hB0 hw1 hs1 ho
  go_enter Tryz.func11, Tryz.ntmps11
  go_upto_region 1 with fail
  rw [← HW1.out]
  clear HW1
  go_upto_region 2 with (first | (refine wpList_build_lit (Ms.plain (zM m.k)).toArray rfl 44 _ rfl (built_rzM m.k) ?_) | (refine wpList_store_blk rfl 44 _ _ rfl w1.heap.size 44 zrmA (Ms.plain (zM m.k)).toArray rfl rfl (Blk.new' rfl) (rminfoA _) (zrm_siz _) (pm_one _) ?_; intro hy))
  have hbn : Below w1.heap.size w1 ((w1.alloc (.cells zrmA 44)).setRow w1.heap.size (Ms.plain (zM m.k)).toArray) := below_setRow ((Below.refl _ _).alloc (Nat.le_refl _) _) (Nat.le_refl _) _
  obtain ⟨w2, hw2⟩ : ∃ w2, w2 = (w1.alloc (.cells zrmA 44)).setRow w1.heap.size (Ms.plain (zM m.k)).toArray := ⟨_, rfl⟩
  rw [← hw2] at hbn hy ⊢
  obtain ⟨p, hp⟩ : ∃ p, p = w1.heap.size := ⟨_, rfl⟩
  rw [← hp] at hy ⊢
  have hpS : p = W.heap.size + 1 := hp.trans HS1.out
  have HA2 := Lib.hid (HA.out.next hbn)
  have HB2 := Lib.hid (HB.out.trans (hbn.mono HB.out.size))
  have HY := Lib.hid hy
  have HPS := Lib.hid hpS
  have hp1 : W.heap.size < p := by omega
  obtain ⟨_, rl, rx, rs, c0, c1, c2, c3, c4⟩ := pm_all HA2.out
  clear hw2 hp hbn hy HA HB HS1 hpS
  clear rl rx rs c2 c3 c4
  go_upto_region 14 with fail
  clear c0
  cases hd1 : decide (0 < m.se) with
  | false =>
    refine wp_region_tree (S := (fun w' => w'.cell? ⟨W.heap.size, 1, none⟩ = some (.int .i64 m.se))) (.take 0 (.take 1 (.take 2 (.take 3 (.take 4 (.take 5 (.take 6 (.take 7 (.take 8 (.take 9 (.take 10 (.one 11 (.take 12 .nil))))))))))))) 9999 (by kernel_rfl) (by kernel_rfl) (by kernel_rfl) (by kernel_rfl) (by kernel_rfl) (fun _ _ d _ _ h => by cases d <;> exact h) c1 (fun hHeld => ?_); simp only [Tree.map, List.getElem?_toArray, List.getElem?_cons_zero, List.getElem?_cons_succ]
    (repeat (first | (refine wpTree.take (v := undef) (Or.inr ⟨by rfl, rfl⟩) ?_; simp only [Act.put, List.setIfInBounds_toArray, List.set_cons_zero, List.set_cons_succ]) | (refine wpTree.take (v := ?_) (Or.inl ⟨by rfl, ?_⟩) ?_; rotate_left; (focus (intro _ hS; (try dsimp only at hS); go_split_ands; (try subst hS); go_simp; (try (with_reducible rfl)); done)); simp only [Act.put, List.setIfInBounds_toArray, List.set_cons_zero, List.set_cons_succ])))
    obtain ⟨wd, hwd⟩ : ∃ wd, wd = w2.drew := ⟨_, rfl⟩
    have hbd : Below p w2 wd := by rw [hwd]; exact (Below.refl _ _).drew
    have hyd : Blk wd p 44 (Ms.plain (zM m.k)).toArray := by rw [hwd]; exact HY.out.drew
    rw [← hwd]
    clear hwd
    have hkA : wd.cell? ⟨p, 1, none⟩ = some (.int .i64 0) := (pm_all hyd).2.2.2.2.2.1
    have hfA := hyd.frozen 1
    refine wpTree.one (fun K hK => ?_)
    go_simp
    obtain ⟨w4, hw⟩ : ∃ w4, w4 = wd.setCell ⟨p, 1, none⟩ (.int .i64 m.se) := ⟨_, rfl⟩
    have hbw4 : Below p w2 w4 := by rw [hw]; exact Below.setCell (p := ⟨p, 1, none⟩) hbd (Nat.le_refl _) _
    have hyw4 : Blk w4 p 44 (Ms.plain { zM m.k with se := m.se }).toArray := by rw [hw]; exact pm_setH hyd (by omega) rfl rfl rfl rfl
    rw [← hw]
    clear hw hkA hfA
    refine hK.out _ _ ((hbw4.cell (p := ⟨W.heap.size, 1, none⟩) hp1).trans c1) (fun _ => ?_)
    clear hK K
    (try simp only [Act.put, List.setIfInBounds_toArray, List.set_cons_zero, List.set_cons_succ])
    (repeat (first | (refine wpTree.take (v := undef) (Or.inr ⟨by rfl, rfl⟩) ?_; simp only [Act.put, List.setIfInBounds_toArray, List.set_cons_zero, List.set_cons_succ]) | (refine wpTree.take (v := ?_) (Or.inl ⟨by rfl, ?_⟩) ?_; rotate_left; (focus (intro _ hS; (try dsimp only at hS); go_split_ands; (try subst hS); go_simp; (try (with_reducible rfl)); done)); simp only [Act.put, List.setIfInBounds_toArray, List.set_cons_zero, List.set_cons_succ])))
    refine wpTree.done ?_
    clear c1 hHeld hbd hyd
    have hbp : Below p w2 w4 := hbw4
    have HZ := Lib.hid (show Blk w4 p 44 (Ms.plain { zM m.k with se := m.se }).toArray from hyw4)
    have HBF := Lib.hid (HB2.out.trans (hbp.mono (Nat.le_of_lt hp1)))
    have HAF := Lib.hid (blk_below HA2.out hbp hp1)
    have rz := HZ.out.range
    have ra := HAF.out.range
    clear hbp HA2 HB2 HY
    clear hbw4 hyw4
    clear rz ra
    go_wp2_with fail
    go_ret
    exact ⟨by simp [hd1], HBF.out⟩
  | true =>
    cases hd2 : decide (m.se < 13) with
    | false =>
      refine wp_region_tree (S := (fun w' => w'.cell? ⟨W.heap.size, 1, none⟩ = some (.int .i64 m.se))) (.take 0 (.take 1 (.take 2 (.take 3 (.take 4 (.take 5 (.take 6 (.take 7 (.take 8 (.take 9 (.take 10 (.one 11 (.take 12 .nil))))))))))))) 9999 (by kernel_rfl) (by kernel_rfl) (by kernel_rfl) (by kernel_rfl) (by kernel_rfl) (fun _ _ d _ _ h => by cases d <;> exact h) c1 (fun hHeld => ?_); simp only [Tree.map, List.getElem?_toArray, List.getElem?_cons_zero, List.getElem?_cons_succ]
      (repeat (first | (refine wpTree.take (v := undef) (Or.inr ⟨by rfl, rfl⟩) ?_; simp only [Act.put, List.setIfInBounds_toArray, List.set_cons_zero, List.set_cons_succ]) | (refine wpTree.take (v := ?_) (Or.inl ⟨by rfl, ?_⟩) ?_; rotate_left; (focus (intro _ hS; (try dsimp only at hS); go_split_ands; (try subst hS); go_simp; (try (with_reducible rfl)); done)); simp only [Act.put, List.setIfInBounds_toArray, List.set_cons_zero, List.set_cons_succ])))
      obtain ⟨wd, hwd⟩ : ∃ wd, wd = w2.drew := ⟨_, rfl⟩
      have hbd : Below p w2 wd := by rw [hwd]; exact (Below.refl _ _).drew
      have hyd : Blk wd p 44 (Ms.plain (zM m.k)).toArray := by rw [hwd]; exact HY.out.drew
      rw [← hwd]
      clear hwd
      have hkA : wd.cell? ⟨p, 1, none⟩ = some (.int .i64 0) := (pm_all hyd).2.2.2.2.2.1
      have hfA := hyd.frozen 1
      refine wpTree.one (fun K hK => ?_)
      go_simp
      obtain ⟨w4, hw⟩ : ∃ w4, w4 = wd.setCell ⟨p, 1, none⟩ (.int .i64 m.se) := ⟨_, rfl⟩
      have hbw4 : Below p w2 w4 := by rw [hw]; exact Below.setCell (p := ⟨p, 1, none⟩) hbd (Nat.le_refl _) _
      have hyw4 : Blk w4 p 44 (Ms.plain { zM m.k with se := m.se }).toArray := by rw [hw]; exact pm_setH hyd (by omega) rfl rfl rfl rfl
      rw [← hw]
      clear hw hkA hfA
      refine hK.out _ _ ((hbw4.cell (p := ⟨W.heap.size, 1, none⟩) hp1).trans c1) (fun _ => ?_)
      clear hK K
      (try simp only [Act.put, List.setIfInBounds_toArray, List.set_cons_zero, List.set_cons_succ])
      (repeat (first | (refine wpTree.take (v := undef) (Or.inr ⟨by rfl, rfl⟩) ?_; simp only [Act.put, List.setIfInBounds_toArray, List.set_cons_zero, List.set_cons_succ]) | (refine wpTree.take (v := ?_) (Or.inl ⟨by rfl, ?_⟩) ?_; rotate_left; (focus (intro _ hS; (try dsimp only at hS); go_split_ands; (try subst hS); go_simp; (try (with_reducible rfl)); done)); simp only [Act.put, List.setIfInBounds_toArray, List.set_cons_zero, List.set_cons_succ])))
      refine wpTree.done ?_
      clear c1 hHeld hbd hyd
      have hbp : Below p w2 w4 := hbw4
      have HZ := Lib.hid (show Blk w4 p 44 (Ms.plain { zM m.k with se := m.se }).toArray from hyw4)
      have HBF := Lib.hid (HB2.out.trans (hbp.mono (Nat.le_of_lt hp1)))
      have HAF := Lib.hid (blk_below HA2.out hbp hp1)
      have rz := HZ.out.range
      have ra := HAF.out.range
      clear hbp HA2 HB2 HY
      clear hbw4 hyw4
      clear rz ra
      go_wp2_with fail
      go_ret
      exact ⟨by simp [hd1, hd2], HBF.out⟩
    | true =>
      refine wp_region_tree (S := (fun w' => w'.cell? ⟨W.heap.size, 1, none⟩ = some (.int .i64 m.se))) (.take 0 (.take 1 (.take 2 (.take 3 (.take 4 (.take 5 (.take 6 (.take 7 (.take 8 (.take 9 (.take 10 (.one 11 (.take 12 .nil))))))))))))) 9999 (by kernel_rfl) (by kernel_rfl) (by kernel_rfl) (by kernel_rfl) (by kernel_rfl) (fun _ _ d _ _ h => by cases d <;> exact h) c1 (fun hHeld => ?_); simp only [Tree.map, List.getElem?_toArray, List.getElem?_cons_zero, List.getElem?_cons_succ]
      (repeat (first | (refine wpTree.take (v := undef) (Or.inr ⟨by rfl, rfl⟩) ?_; simp only [Act.put, List.setIfInBounds_toArray, List.set_cons_zero, List.set_cons_succ]) | (refine wpTree.take (v := ?_) (Or.inl ⟨by rfl, ?_⟩) ?_; rotate_left; (focus (intro _ hS; (try dsimp only at hS); go_split_ands; (try subst hS); go_simp; (try (with_reducible rfl)); done)); simp only [Act.put, List.setIfInBounds_toArray, List.set_cons_zero, List.set_cons_succ])))
      obtain ⟨wd, hwd⟩ : ∃ wd, wd = w2.drew := ⟨_, rfl⟩
      have hbd : Below p w2 wd := by rw [hwd]; exact (Below.refl _ _).drew
      have hyd : Blk wd p 44 (Ms.plain (zM m.k)).toArray := by rw [hwd]; exact HY.out.drew
      rw [← hwd]
      clear hwd
      have hkA : wd.cell? ⟨p, 1, none⟩ = some (.int .i64 0) := (pm_all hyd).2.2.2.2.2.1
      have hfA := hyd.frozen 1
      refine wpTree.one (fun K hK => ?_)
      go_simp
      obtain ⟨w4, hw⟩ : ∃ w4, w4 = wd.setCell ⟨p, 1, none⟩ (.int .i64 m.se) := ⟨_, rfl⟩
      have hbw4 : Below p w2 w4 := by rw [hw]; exact Below.setCell (p := ⟨p, 1, none⟩) hbd (Nat.le_refl _) _
      have hyw4 : Blk w4 p 44 (Ms.plain { zM m.k with se := m.se }).toArray := by rw [hw]; exact pm_setH hyd (by omega) rfl rfl rfl rfl
      rw [← hw]
      clear hw hkA hfA
      refine hK.out _ _ ((hbw4.cell (p := ⟨W.heap.size, 1, none⟩) hp1).trans c1) (fun _ => ?_)
      clear hK K
      (try simp only [Act.put, List.setIfInBounds_toArray, List.set_cons_zero, List.set_cons_succ])
      (repeat (first | (refine wpTree.take (v := undef) (Or.inr ⟨by rfl, rfl⟩) ?_; simp only [Act.put, List.setIfInBounds_toArray, List.set_cons_zero, List.set_cons_succ]) | (refine wpTree.take (v := ?_) (Or.inl ⟨by rfl, ?_⟩) ?_; rotate_left; (focus (intro _ hS; (try dsimp only at hS); go_split_ands; (try subst hS); go_simp; (try (with_reducible rfl)); done)); simp only [Act.put, List.setIfInBounds_toArray, List.set_cons_zero, List.set_cons_succ])))
      refine wpTree.done ?_
      clear c1 hHeld hbd hyd
      have hbp : Below p w2 w4 := hbw4
      have HZ := Lib.hid (show Blk w4 p 44 (Ms.plain { zM m.k with se := m.se }).toArray from hyw4)
      have HBF := Lib.hid (HB2.out.trans (hbp.mono (Nat.le_of_lt hp1)))
      have HAF := Lib.hid (blk_below HA2.out hbp hp1)
      have rz := HZ.out.range
      have ra := HAF.out.range
      clear hbp HA2 HB2 HY
      clear hbw4 hyw4
      have hq := fun w => eq_rmsg m { zM m.k with se := m.se } w
      go_wp2_with (first | (refine wpList_load_midg (by rfl) 44 _ rfl _ _ rfl (Ms.plain ?_) _ ?_ Tryz.underlying44 rfl (rminfo _) ?_; rotate_left; (focus assumption)))
      go_ret
      exact ⟨by simp [hd1, hd2], HBF.out⟩
set_option maxRecDepth 20000 in
set_option maxHeartbeats 8000000 in
theorem rr_sel7 (m : Ms) (ho : Ms.Lt m) (W : World) (e1 : (m.k == 1) = false) (e2 : (m.k == 2) = false) (e3 : (m.k == 3) = false) (e4 : (m.k == 4) = false) (e5 : (m.k == 5) = false) (e6 : (m.k == 6) = false) (e7 : (m.k == 7) = true) (e8 : (m.k == 8) = false) (e9 : (m.k == 9) = false) (e10 : (m.k == 10) = false) : Calls Tryz.prog 11 #[.agg (Ms.plain m).toArray] W fun e W' => e = .returned (.bool (decide (0 < m.se) && decide (m.se < 13) && sameM m { zM m.k with se := m.se })) ∧ Below W.heap.size W W' := by
  have bA := Blk.new W 44 (Ms.plain m).toArray
  have hB0 := (Below.refl W.heap.size W).alloc (Nat.le_refl _) (.cells (Ms.plain m).toArray 44)
  obtain ⟨w1, hw1⟩ : ∃ w1, w1 = W.alloc (.cells (Ms.plain m).toArray 44) := ⟨_, rfl⟩
  have hs1 : w1.heap.size = W.heap.size + 1 := by rw [hw1]; simp
  rw [← hw1] at bA hB0
  have HW1 := Lib.hid hw1
  have HA := Lib.hid bA
  have HB := Lib.hid hB0
  have HS1 := Lib.hid hs1
  have HO := Lib.hid ho
  obtain ⟨_, rl, rx, rs, c0, c1, c2, c3, c4⟩ := pm_all bA
  clear bA hB0 hw1 hs1 ho
  go_enter Tryz.func11, Tryz.ntmps11
  go_upto_region 1 with fail
  rw [← HW1.out]
  clear HW1
  go_upto_region 2 with (first | (refine wpList_build_lit (Ms.plain (zM m.k)).toArray rfl 44 _ rfl (built_rzM m.k) ?_) | (refine wpList_store_blk rfl 44 _ _ rfl w1.heap.size 44 zrmA (Ms.plain (zM m.k)).toArray rfl rfl (Blk.new' rfl) (rminfoA _) (zrm_siz _) (pm_one _) ?_; intro hy))
  have hbn : Below w1.heap.size w1 ((w1.alloc (.cells zrmA 44)).setRow w1.heap.size (Ms.plain (zM m.k)).toArray) := below_setRow ((Below.refl _ _).alloc (Nat.le_refl _) _) (Nat.le_refl _) _
  obtain ⟨w2, hw2⟩ : ∃ w2, w2 = (w1.alloc (.cells zrmA 44)).setRow w1.heap.size (Ms.plain (zM m.k)).toArray := ⟨_, rfl⟩
  rw [← hw2] at hbn hy ⊢
  obtain ⟨p, hp⟩ : ∃ p, p = w1.heap.size := ⟨_, rfl⟩
  rw [← hp] at hy ⊢
  have hpS : p = W.heap.size + 1 := hp.trans HS1.out
  have HA2 := Lib.hid (HA.out.next hbn)
  have HB2 := Lib.hid (HB.out.trans (hbn.mono HB.out.size))
  have HY := Lib.hid hy
  have HPS := Lib.hid hpS
  have hp1 : W.heap.size < p := by omega
  obtain ⟨_, rl, rx, rs, c0, c1, c2, c3, c4⟩ := pm_all HA2.out
  clear hw2 hp hbn hy HA HB HS1 hpS
  clear rl rx rs c2 c3 c4
  go_upto_region 14 with fail
  clear c0
  cases hd1 : decide (0 < m.se) with
  | false =>
    refine wp_region_tree (S := (fun w' => w'.cell? ⟨W.heap.size, 1, none⟩ = some (.int .i64 m.se))) (.take 0 (.take 1 (.take 2 (.take 3 (.take 4 (.take 5 (.take 6 (.take 7 (.take 8 (.take 9 (.take 10 (.one 11 (.take 12 .nil))))))))))))) 9999 (by kernel_rfl) (by kernel_rfl) (by kernel_rfl) (by kernel_rfl) (by kernel_rfl) (fun _ _ d _ _ h => by cases d <;> exact h) c1 (fun hHeld => ?_); simp only [Tree.map, List.getElem?_toArray, List.getElem?_cons_zero, List.getElem?_cons_succ]
    (repeat (first | (refine wpTree.take (v := undef) (Or.inr ⟨by rfl, rfl⟩) ?_; simp only [Act.put, List.setIfInBounds_toArray, List.set_cons_zero, List.set_cons_succ]) | (refine wpTree.take (v := ?_) (Or.inl ⟨by rfl, ?_⟩) ?_; rotate_left; (focus (intro _ hS; (try dsimp only at hS); go_split_ands; (try subst hS); go_simp; (try (with_reducible rfl)); done)); simp only [Act.put, List.setIfInBounds_toArray, List.set_cons_zero, List.set_cons_succ])))
    obtain ⟨wd, hwd⟩ : ∃ wd, wd = w2.drew := ⟨_, rfl⟩
    have hbd : Below p w2 wd := by rw [hwd]; exact (Below.refl _ _).drew
    have hyd : Blk wd p 44 (Ms.plain (zM m.k)).toArray := by rw [hwd]; exact HY.out.drew
    rw [← hwd]
    clear hwd
    have hkA : wd.cell? ⟨p, 1, none⟩ = some (.int .i64 0) := (pm_all hyd).2.2.2.2.2.1
    have hfA := hyd.frozen 1
    refine wpTree.one (fun K hK => ?_)
    go_simp
    obtain ⟨w4, hw⟩ : ∃ w4, w4 = wd.setCell ⟨p, 1, none⟩ (.int .i64 m.se) := ⟨_, rfl⟩
    have hbw4 : Below p w2 w4 := by rw [hw]; exact Below.setCell (p := ⟨p, 1, none⟩) hbd (Nat.le_refl _) _
    have hyw4 : Blk w4 p 44 (Ms.plain { zM m.k with se := m.se }).toArray := by rw [hw]; exact pm_setH hyd (by omega) rfl rfl rfl rfl
    rw [← hw]
    clear hw hkA hfA
    refine hK.out _ _ ((hbw4.cell (p := ⟨W.heap.size, 1, none⟩) hp1).trans c1) (fun _ => ?_)
    clear hK K
    (try simp only [Act.put, List.setIfInBounds_toArray, List.set_cons_zero, List.set_cons_succ])
    (repeat (first | (refine wpTree.take (v := undef) (Or.inr ⟨by rfl, rfl⟩) ?_; simp only [Act.put, List.setIfInBounds_toArray, List.set_cons_zero, List.set_cons_succ]) | (refine wpTree.take (v := ?_) (Or.inl ⟨by rfl, ?_⟩) ?_; rotate_left; (focus (intro _ hS; (try dsimp only at hS); go_split_ands; (try subst hS); go_simp; (try (with_reducible rfl)); done)); simp only [Act.put, List.setIfInBounds_toArray, List.set_cons_zero, List.set_cons_succ])))
    refine wpTree.done ?_
    clear c1 hHeld hbd hyd
    have hbp : Below p w2 w4 := hbw4
    have HZ := Lib.hid (show Blk w4 p 44 (Ms.plain { zM m.k with se := m.se }).toArray from hyw4)
    have HBF := Lib.hid (HB2.out.trans (hbp.mono (Nat.le_of_lt hp1)))
    have HAF := Lib.hid (blk_below HA2.out hbp hp1)
    have rz := HZ.out.range
    have ra := HAF.out.range
    clear hbp HA2 HB2 HY
    clear hbw4 hyw4
    clear rz ra
    go_wp2_with fail
    go_ret
    exact ⟨by simp [hd1], HBF.out⟩
  | true =>
    cases hd2 : decide (m.se < 13) with
    | false =>
      refine wp_region_tree (S := (fun w' => w'.cell? ⟨W.heap.size, 1, none⟩ = some (.int .i64 m.se))) (.take 0 (.take 1 (.take 2 (.take 3 (.take 4 (.take 5 (.take 6 (.take 7 (.take 8 (.take 9 (.take 10 (.one 11 (.take 12 .nil))))))))))))) 9999 (by kernel_rfl) (by kernel_rfl) (by kernel_rfl) (by kernel_rfl) (by kernel_rfl) (fun _ _ d _ _ h => by cases d <;> exact h) c1 (fun hHeld => ?_); simp only [Tree.map, List.getElem?_toArray, List.getElem?_cons_zero, List.getElem?_cons_succ]
      (repeat (first | (refine wpTree.take (v := undef) (Or.inr ⟨by rfl, rfl⟩) ?_; simp only [Act.put, List.setIfInBounds_toArray, List.set_cons_zero, List.set_cons_succ]) | (refine wpTree.take (v := ?_) (Or.inl ⟨by rfl, ?_⟩) ?_; rotate_left; (focus (intro _ hS; (try dsimp only at hS); go_split_ands; (try subst hS); go_simp; (try (with_reducible rfl)); done)); simp only [Act.put, List.setIfInBounds_toArray, List.set_cons_zero, List.set_cons_succ])))
      obtain ⟨wd, hwd⟩ : ∃ wd, wd = w2.drew := ⟨_, rfl⟩
      have hbd : Below p w2 wd := by rw [hwd]; exact (Below.refl _ _).drew
      have hyd : Blk wd p 44 (Ms.plain (zM m.k)).toArray := by rw [hwd]; exact HY.out.drew
      rw [← hwd]
      clear hwd
      have hkA : wd.cell? ⟨p, 1, none⟩ = some (.int .i64 0) := (pm_all hyd).2.2.2.2.2.1
      have hfA := hyd.frozen 1
      refine wpTree.one (fun K hK => ?_)
      go_simp
      obtain ⟨w4, hw⟩ : ∃ w4, w4 = wd.setCell ⟨p, 1, none⟩ (.int .i64 m.se) := ⟨_, rfl⟩
      have hbw4 : Below p w2 w4 := by rw [hw]; exact Below.setCell (p := ⟨p, 1, none⟩) hbd (Nat.le_refl _) _
      have hyw4 : Blk w4 p 44 (Ms.plain { zM m.k with se := m.se }).toArray := by rw [hw]; exact pm_setH hyd (by omega) rfl rfl rfl rfl
      rw [← hw]
      clear hw hkA hfA
      refine hK.out _ _ ((hbw4.cell (p := ⟨W.heap.size, 1, none⟩) hp1).trans c1) (fun _ => ?_)
      clear hK K
      (try simp only [Act.put, List.setIfInBounds_toArray, List.set_cons_zero, List.set_cons_succ])
      (repeat (first | (refine wpTree.take (v := undef) (Or.inr ⟨by rfl, rfl⟩) ?_; simp only [Act.put, List.setIfInBounds_toArray, List.set_cons_zero, List.set_cons_succ]) | (refine wpTree.take (v := ?_) (Or.inl ⟨by rfl, ?_⟩) ?_; rotate_left; (focus (intro _ hS; (try dsimp only at hS); go_split_ands; (try subst hS); go_simp; (try (with_reducible rfl)); done)); simp only [Act.put, List.setIfInBounds_toArray, List.set_cons_zero, List.set_cons_succ])))
      refine wpTree.done ?_
      clear c1 hHeld hbd hyd
      have hbp : Below p w2 w4 := hbw4
      have HZ := Lib.hid (show Blk w4 p 44 (Ms.plain { zM m.k with se := m.se }).toArray from hyw4)
      have HBF := Lib.hid (HB2.out.trans (hbp.mono (Nat.le_of_lt hp1)))
      have HAF := Lib.hid (blk_below HA2.out hbp hp1)
      have rz := HZ.out.range
      have ra := HAF.out.range
      clear hbp HA2 HB2 HY
      clear hbw4 hyw4
      clear rz ra
      go_wp2_with fail
      go_ret
      exact ⟨by simp [hd1, hd2], HBF.out⟩
    | true =>
      refine wp_region_tree (S := (fun w' => w'.cell? ⟨W.heap.size, 1, none⟩ = some (.int .i64 m.se))) (.take 0 (.take 1 (.take 2 (.take 3 (.take 4 (.take 5 (.take 6 (.take 7 (.take 8 (.take 9 (.take 10 (.one 11 (.take 12 .nil))))))))))))) 9999 (by kernel_rfl) (by kernel_rfl) (by kernel_rfl) (by kernel_rfl) (by kernel_rfl) (fun _ _ d _ _ h => by cases d <;> exact h) c1 (fun hHeld => ?_); simp only [Tree.map, List.getElem?_toArray, List.getElem?_cons_zero, List.getElem?_cons_succ]
      (repeat (first | (refine wpTree.take (v := undef) (Or.inr ⟨by rfl, rfl⟩) ?_; simp only [Act.put, List.setIfInBounds_toArray, List.set_cons_zero, List.set_cons_succ]) | (refine wpTree.take (v := ?_) (Or.inl ⟨by rfl, ?_⟩) ?_; rotate_left; (focus (intro _ hS; (try dsimp only at hS); go_split_ands; (try subst hS); go_simp; (try (with_reducible rfl)); done)); simp only [Act.put, List.setIfInBounds_toArray, List.set_cons_zero, List.set_cons_succ])))
      obtain ⟨wd, hwd⟩ : ∃ wd, wd = w2.drew := ⟨_, rfl⟩
      have hbd : Below p w2 wd := by rw [hwd]; exact (Below.refl _ _).drew
      have hyd : Blk wd p 44 (Ms.plain (zM m.k)).toArray := by rw [hwd]; exact HY.out.drew
      rw [← hwd]
      clear hwd
      have hkA : wd.cell? ⟨p, 1, none⟩ = some (.int .i64 0) := (pm_all hyd).2.2.2.2.2.1
      have hfA := hyd.frozen 1
      refine wpTree.one (fun K hK => ?_)
      go_simp
      obtain ⟨w4, hw⟩ : ∃ w4, w4 = wd.setCell ⟨p, 1, none⟩ (.int .i64 m.se) := ⟨_, rfl⟩
      have hbw4 : Below p w2 w4 := by rw [hw]; exact Below.setCell (p := ⟨p, 1, none⟩) hbd (Nat.le_refl _) _
      have hyw4 : Blk w4 p 44 (Ms.plain { zM m.k with se := m.se }).toArray := by rw [hw]; exact pm_setH hyd (by omega) rfl rfl rfl rfl
      rw [← hw]
      clear hw hkA hfA
      refine hK.out _ _ ((hbw4.cell (p := ⟨W.heap.size, 1, none⟩) hp1).trans c1) (fun _ => ?_)
      clear hK K
      (try simp only [Act.put, List.setIfInBounds_toArray, List.set_cons_zero, List.set_cons_succ])
      (repeat (first | (refine wpTree.take (v := undef) (Or.inr ⟨by rfl, rfl⟩) ?_; simp only [Act.put, List.setIfInBounds_toArray, List.set_cons_zero, List.set_cons_succ]) | (refine wpTree.take (v := ?_) (Or.inl ⟨by rfl, ?_⟩) ?_; rotate_left; (focus (intro _ hS; (try dsimp only at hS); go_split_ands; (try subst hS); go_simp; (try (with_reducible rfl)); done)); simp only [Act.put, List.setIfInBounds_toArray, List.set_cons_zero, List.set_cons_succ])))
      refine wpTree.done ?_
      clear c1 hHeld hbd hyd
      have hbp : Below p w2 w4 := hbw4
      have HZ := Lib.hid (show Blk w4 p 44 (Ms.plain { zM m.k with se := m.se }).toArray from hyw4)
      have HBF := Lib.hid (HB2.out.trans (hbp.mono (Nat.le_of_lt hp1)))
      have HAF := Lib.hid (blk_below HA2.out hbp hp1)
      have rz := HZ.out.range
      have ra := HAF.out.range
      clear hbp HA2 HB2 HY
      clear hbw4 hyw4
      have hq := fun w => eq_rmsg m { zM m.k with se := m.se } w
      go_wp2_with (first | (refine wpList_load_midg (by rfl) 44 _ rfl _ _ rfl (Ms.plain ?_) _ ?_ Tryz.underlying44 rfl (rminfo _) ?_; rotate_left; (focus assumption)))
      go_ret
      exact ⟨by simp [hd1, hd2], HBF.out⟩
set_option maxRecDepth 20000 in
set_option maxHeartbeats 8000000 in
theorem rr_sel8 (m : Ms) (ho : Ms.Lt m) (W : World) (e1 : (m.k == 1) = false) (e2 : (m.k == 2) = false) (e3 : (m.k == 3) = false) (e4 : (m.k == 4) = false) (e5 : (m.k == 5) = false) (e6 : (m.k == 6) = false) (e7 : (m.k == 7) = false) (e8 : (m.k == 8) = true) (e9 : (m.k == 9) = false) (e10 : (m.k == 10) = false) : Calls Tryz.prog 11 #[.agg (Ms.plain m).toArray] W fun e W' => e = .returned (.bool (decide (0 < m.se) && decide (m.se < 13) && sameM m { zM m.k with se := m.se })) ∧ Below W.heap.size W W' := by
  have bA := Blk.new W 44 (Ms.plain m).toArray
  have hB0 := (Below.refl W.heap.size W).alloc (Nat.le_refl _) (.cells (Ms.plain m).toArray 44)
  obtain ⟨w1, hw1⟩ : ∃ w1, w1 = W.alloc (.cells (Ms.plain m).toArray 44) := ⟨_, rfl⟩
  have hs1 : w1.heap.size = W.heap.size + 1 := by rw [hw1]; simp
  rw [← hw1] at bA hB0
  have HW1 := Lib.hid hw1
  have HA := Lib.hid bA
  have HB := Lib.hid hB0
  have HS1 := Lib.hid hs1
  have HO := Lib.hid ho
  obtain ⟨_, rl, rx, rs, c0, c1, c2, c3, c4⟩ := pm_all bA
  clear bA hB0 hw1 hs1 ho
  go_enter Tryz.func11, Tryz.ntmps11
  go_upto_region 1 with fail
  rw [← HW1.out]
  clear HW1
  go_upto_region 2 with (first | (refine wpList_build_lit (Ms.plain (zM m.k)).toArray rfl 44 _ rfl (built_rzM m.k) ?_) | (refine wpList_store_blk rfl 44 _ _ rfl w1.heap.size 44 zrmA (Ms.plain (zM m.k)).toArray rfl rfl (Blk.new' rfl) (rminfoA _) (zrm_siz _) (pm_one _) ?_; intro hy))
  have hbn : Below w1.heap.size w1 ((w1.alloc (.cells zrmA 44)).setRow w1.heap.size (Ms.plain (zM m.k)).toArray) := below_setRow ((Below.refl _ _).alloc (Nat.le_refl _) _) (Nat.le_refl _) _
  obtain ⟨w2, hw2⟩ : ∃ w2, w2 = (w1.alloc (.cells zrmA 44)).setRow w1.heap.size (Ms.plain (zM m.k)).toArray := ⟨_, rfl⟩
  rw [← hw2] at hbn hy ⊢
  obtain ⟨p, hp⟩ : ∃ p, p = w1.heap.size := ⟨_, rfl⟩
  rw [← hp] at hy ⊢
  have hpS : p = W.heap.size + 1 := hp.trans HS1.out
  have HA2 := Lib.hid (HA.out.next hbn)
  have HB2 := Lib.hid (HB.out.trans (hbn.mono HB.out.size))
  have HY := Lib.hid hy
  have HPS := Lib.hid hpS
  have hp1 : W.heap.size < p := by omega
  obtain ⟨_, rl, rx, rs, c0, c1, c2, c3, c4⟩ := pm_all HA2.out
  clear hw2 hp hbn hy HA HB HS1 hpS
  clear rl rx rs c2 c3 c4
  go_upto_region 14 with fail
  clear c0
  cases hd1 : decide (0 < m.se) with
  | false =>
    refine wp_region_tree (S := (fun w' => w'.cell? ⟨W.heap.size, 1, none⟩ = some (.int .i64 m.se))) (.take 0 (.take 1 (.take 2 (.take 3 (.take 4 (.take 5 (.take 6 (.take 7 (.take 8 (.take 9 (.take 10 (.one 11 (.take 12 .nil))))))))))))) 9999 (by kernel_rfl) (by kernel_rfl) (by kernel_rfl) (by kernel_rfl) (by kernel_rfl) (fun _ _ d _ _ h => by cases d <;> exact h) c1 (fun hHeld => ?_); simp only [Tree.map, List.getElem?_toArray, List.getElem?_cons_zero, List.getElem?_cons_succ]
    (repeat (first | (refine wpTree.take (v := undef) (Or.inr ⟨by rfl, rfl⟩) ?_; simp only [Act.put, List.setIfInBounds_toArray, List.set_cons_zero, List.set_cons_succ]) | (refine wpTree.take (v := ?_) (Or.inl ⟨by rfl, ?_⟩) ?_; rotate_left; (focus (intro _ hS; (try dsimp only at hS); go_split_ands; (try subst hS); go_simp; (try (with_reducible rfl)); done)); simp only [Act.put, List.setIfInBounds_toArray, List.set_cons_zero, List.set_cons_succ])))
    obtain ⟨wd, hwd⟩ : ∃ wd, wd = w2.drew := ⟨_, rfl⟩
    have hbd : Below p w2 wd := by rw [hwd]; exact (Below.refl _ _).drew
    have hyd : Blk wd p 44 (Ms.plain (zM m.k)).toArray := by rw [hwd]; exact HY.out.drew
    rw [← hwd]
    clear hwd
    have hkA : wd.cell? ⟨p, 1, none⟩ = some (.int .i64 0) := (pm_all hyd).2.2.2.2.2.1
    have hfA := hyd.frozen 1
    refine wpTree.one (fun K hK => ?_)
    go_simp
    obtain ⟨w4, hw⟩ : ∃ w4, w4 = wd.setCell ⟨p, 1, none⟩ (.int .i64 m.se) := ⟨_, rfl⟩
    have hbw4 : Below p w2 w4 := by rw [hw]; exact Below.setCell (p := ⟨p, 1, none⟩) hbd (Nat.le_refl _) _
    have hyw4 : Blk w4 p 44 (Ms.plain { zM m.k with se := m.se }).toArray := by rw [hw]; exact pm_setH hyd (by omega) rfl rfl rfl rfl
    rw [← hw]
    clear hw hkA hfA
    refine hK.out _ _ ((hbw4.cell (p := ⟨W.heap.size, 1, none⟩) hp1).trans c1) (fun _ => ?_)
    clear hK K
    (try simp only [Act.put, List.setIfInBounds_toArray, List.set_cons_zero, List.set_cons_succ])
    (repeat (first | (refine wpTree.take (v := undef) (Or.inr ⟨by rfl, rfl⟩) ?_; simp only [Act.put, List.setIfInBounds_toArray, List.set_cons_zero, List.set_cons_succ]) | (refine wpTree.take (v := ?_) (Or.inl ⟨by rfl, ?_⟩) ?_; rotate_left; (focus (intro _ hS; (try dsimp only at hS); go_split_ands; (try subst hS); go_simp; (try (with_reducible rfl)); done)); simp only [Act.put, List.setIfInBounds_toArray, List.set_cons_zero, List.set_cons_succ])))
    refine wpTree.done ?_
    clear c1 hHeld hbd hyd
    have hbp : Below p w2 w4 := hbw4
    have HZ := Lib.hid (show Blk w4 p 44 (Ms.plain { zM m.k with se := m.se }).toArray from hyw4)
    have HBF := Lib.hid (HB2.out.trans (hbp.mono (Nat.le_of_lt hp1)))
    have HAF := Lib.hid (blk_below HA2.out hbp hp1)
    have rz := HZ.out.range
    have ra := HAF.out.range
    clear hbp HA2 HB2 HY
    clear hbw4 hyw4
    clear rz ra
    go_wp2_with fail
    go_ret
    exact ⟨by simp [hd1], HBF.out⟩
  | true =>
    cases hd2 : decide (m.se < 13) with
    | false =>
      refine wp_region_tree (S := (fun w' => w'.cell? ⟨W.heap.size, 1, none⟩ = some (.int .i64 m.se))) (.take 0 (.take 1 (.take 2 (.take 3 (.take 4 (.take 5 (.take 6 (.take 7 (.take 8 (.take 9 (.take 10 (.one 11 (.take 12 .nil))))))))))))) 9999 (by kernel_rfl) (by kernel_rfl) (by kernel_rfl) (by kernel_rfl) (by kernel_rfl) (fun _ _ d _ _ h => by cases d <;> exact h) c1 (fun hHeld => ?_); simp only [Tree.map, List.getElem?_toArray, List.getElem?_cons_zero, List.getElem?_cons_succ]
      (repeat (first | (refine wpTree.take (v := undef) (Or.inr ⟨by rfl, rfl⟩) ?_; simp only [Act.put, List.setIfInBounds_toArray, List.set_cons_zero, List.set_cons_succ]) | (refine wpTree.take (v := ?_) (Or.inl ⟨by rfl, ?_⟩) ?_; rotate_left; (focus (intro _ hS; (try dsimp only at hS); go_split_ands; (try subst hS); go_simp; (try (with_reducible rfl)); done)); simp only [Act.put, List.setIfInBounds_toArray, List.set_cons_zero, List.set_cons_succ])))
      obtain ⟨wd, hwd⟩ : ∃ wd, wd = w2.drew := ⟨_, rfl⟩
      have hbd : Below p w2 wd := by rw [hwd]; exact (Below.refl _ _).drew
      have hyd : Blk wd p 44 (Ms.plain (zM m.k)).toArray := by rw [hwd]; exact HY.out.drew
      rw [← hwd]
      clear hwd
      have hkA : wd.cell? ⟨p, 1, none⟩ = some (.int .i64 0) := (pm_all hyd).2.2.2.2.2.1
      have hfA := hyd.frozen 1
      refine wpTree.one (fun K hK => ?_)
      go_simp
      obtain ⟨w4, hw⟩ : ∃ w4, w4 = wd.setCell ⟨p, 1, none⟩ (.int .i64 m.se) := ⟨_, rfl⟩
      have hbw4 : Below p w2 w4 := by rw [hw]; exact Below.setCell (p := ⟨p, 1, none⟩) hbd (Nat.le_refl _) _
      have hyw4 : Blk w4 p 44 (Ms.plain { zM m.k with se := m.se }).toArray := by rw [hw]; exact pm_setH hyd (by omega) rfl rfl rfl rfl
      rw [← hw]
      clear hw hkA hfA
      refine hK.out _ _ ((hbw4.cell (p := ⟨W.heap.size, 1, none⟩) hp1).trans c1) (fun _ => ?_)
      clear hK K
      (try simp only [Act.put, List.setIfInBounds_toArray, List.set_cons_zero, List.set_cons_succ])
      (repeat (first | (refine wpTree.take (v := undef) (Or.inr ⟨by rfl, rfl⟩) ?_; simp only [Act.put, List.setIfInBounds_toArray, List.set_cons_zero, List.set_cons_succ]) | (refine wpTree.take (v := ?_) (Or.inl ⟨by rfl, ?_⟩) ?_; rotate_left; (focus (intro _ hS; (try dsimp only at hS); go_split_ands; (try subst hS); go_simp; (try (with_reducible rfl)); done)); simp only [Act.put, List.setIfInBounds_toArray, List.set_cons_zero, List.set_cons_succ])))
      refine wpTree.done ?_
      clear c1 hHeld hbd hyd
      have hbp : Below p w2 w4 := hbw4
      have HZ := Lib.hid (show Blk w4 p 44 (Ms.plain { zM m.k with se := m.se }).toArray from hyw4)
      have HBF := Lib.hid (HB2.out.trans (hbp.mono (Nat.le_of_lt hp1)))
      have HAF := Lib.hid (blk_below HA2.out hbp hp1)
      have rz := HZ.out.range
      have ra := HAF.out.range
      clear hbp HA2 HB2 HY
      clear hbw4 hyw4
      clear rz ra
      go_wp2_with fail
      go_ret
      exact ⟨by simp [hd1, hd2], HBF.out⟩
    | true =>
      refine wp_region_tree (S := (fun w' => w'.cell? ⟨W.heap.size, 1, none⟩ = some (.int .i64 m.se))) (.take 0 (.take 1 (.take 2 (.take 3 (.take 4 (.take 5 (.take 6 (.take 7 (.take 8 (.take 9 (.take 10 (.one 11 (.take 12 .nil))))))))))))) 9999 (by kernel_rfl) (by kernel_rfl) (by kernel_rfl) (by kernel_rfl) (by kernel_rfl) (fun _ _ d _ _ h => by cases d <;> exact h) c1 (fun hHeld => ?_); simp only [Tree.map, List.getElem?_toArray, List.getElem?_cons_zero, List.getElem?_cons_succ]
      (repeat (first | (refine wpTree.take (v := undef) (Or.inr ⟨by rfl, rfl⟩) ?_; simp only [Act.put, List.setIfInBounds_toArray, List.set_cons_zero, List.set_cons_succ]) | (refine wpTree.take (v := ?_) (Or.inl ⟨by rfl, ?_⟩) ?_; rotate_left; (focus (intro _ hS; (try dsimp only at hS); go_split_ands; (try subst hS); go_simp; (try (with_reducible rfl)); done)); simp only [Act.put, List.setIfInBounds_toArray, List.set_cons_zero, List.set_cons_succ])))
      obtain ⟨wd, hwd⟩ : ∃ wd, wd = w2.drew := ⟨_, rfl⟩
      have hbd : Below p w2 wd := by rw [hwd]; exact (Below.refl _ _).drew
      have hyd : Blk wd p 44 (Ms.plain (zM m.k)).toArray := by rw [hwd]; exact HY.out.drew
      rw [← hwd]
      clear hwd
      have hkA : wd.cell? ⟨p, 1, none⟩ = some (.int .i64 0) := (pm_all hyd).2.2.2.2.2.1
      have hfA := hyd.frozen 1
      refine wpTree.one (fun K hK => ?_)
      go_simp
      obtain ⟨w4, hw⟩ : ∃ w4, w4 = wd.setCell ⟨p, 1, none⟩ (.int .i64 m.se) := ⟨_, rfl⟩
      have hbw4 : Below p w2 w4 := by rw [hw]; exact Below.setCell (p := ⟨p, 1, none⟩) hbd (Nat.le_refl _) _
      have hyw4 : Blk w4 p 44 (Ms.plain { zM m.k with se := m.se }).toArray := by rw [hw]; exact pm_setH hyd (by omega) rfl rfl rfl rfl
      rw [← hw]
      clear hw hkA hfA
      refine hK.out _ _ ((hbw4.cell (p := ⟨W.heap.size, 1, none⟩) hp1).trans c1) (fun _ => ?_)
      clear hK K
      (try simp only [Act.put, List.setIfInBounds_toArray, List.set_cons_zero, List.set_cons_succ])
      (repeat (first | (refine wpTree.take (v := undef) (Or.inr ⟨by rfl, rfl⟩) ?_; simp only [Act.put, List.setIfInBounds_toArray, List.set_cons_zero, List.set_cons_succ]) | (refine wpTree.take (v := ?_) (Or.inl ⟨by rfl, ?_⟩) ?_; rotate_left; (focus (intro _ hS; (try dsimp only at hS); go_split_ands; (try subst hS); go_simp; (try (with_reducible rfl)); done)); simp only [Act.put, List.setIfInBounds_toArray, List.set_cons_zero, List.set_cons_succ])))
      refine wpTree.done ?_
      clear c1 hHeld hbd hyd
      have hbp : Below p w2 w4 := hbw4
      have HZ := Lib.hid (show Blk w4 p 44 (Ms.plain { zM m.k with se := m.se }).toArray from hyw4)
      have HBF := Lib.hid (HB2.out.trans (hbp.mono (Nat.le_of_lt hp1)))
      have HAF := Lib.hid (blk_below HA2.out hbp hp1)
      have rz := HZ.out.range
      have ra := HAF.out.range
      clear hbp HA2 HB2 HY
      clear hbw4 hyw4
      have hq := fun w => eq_rmsg m { zM m.k with se := m.se } w
      go_wp2_with (first | (refine wpList_load_midg (by rfl) 44 _ rfl _ _ rfl (Ms.plain ?_) _ ?_ Tryz.underlying44 rfl (rminfo _) ?_; rotate_left; (focus assumption)))
      go_ret
      exact ⟨by simp [hd1, hd2], HBF.out⟩
set_option maxRecDepth 20000 in
set_option maxHeartbeats 8000000 in
theorem rr_sel9 (m : Ms) (ho : Ms.Lt m) (W : World) (e1 : (m.k == 1) = false) (e2 : (m.k == 2) = false) (e3 : (m.k == 3) = false) (e4 : (m.k == 4) = false) (e5 : (m.k == 5) = false) (e6 : (m.k == 6) = false) (e7 : (m.k == 7) = false) (e8 : (m.k == 8) = false) (e9 : (m.k == 9) = true) (e10 : (m.k == 10) = false) : Calls Tryz.prog 11 #[.agg (Ms.plain m).toArray] W fun e W' => e = .returned (.bool (decide (0 < m.se) && decide (m.se < 13) && sameM m { zM m.k with se := m.se })) ∧ Below W.heap.size W W' := by
  have bA := Blk.new W 44 (Ms.plain m).toArray
  have hB0 := (Below.refl W.heap.size W).alloc (Nat.le_refl _) (.cells (Ms.plain m).toArray 44)
  obtain ⟨w1, hw1⟩ : ∃ w1, w1 = W.alloc (.cells (Ms.plain m).toArray 44) := ⟨_, rfl⟩
  have hs1 : w1.heap.size = W.heap.size + 1 := by rw [hw1]; simp
  rw [← hw1] at bA hB0
  have HW1 := Lib.hid hw1
  have HA := Lib.hid bA
  have HB := Lib.hid hB0
  have HS1 := Lib.hid hs1
  have HO := Lib.hid ho
  obtain ⟨_, rl, rx, rs, c0, c1, c2, c3, c4⟩ := pm_all bA
  clear bA hB0 hw1 hs1 ho
  go_enter Tryz.func11, Tryz.ntmps11
  go_upto_region 1 with fail
  rw [← HW1.out]
  clear HW1
  go_upto_region 2 with (first | (refine wpList_build_lit (Ms.plain (zM m.k)).toArray rfl 44 _ rfl (built_rzM m.k) ?_) | (refine wpList_store_blk rfl 44 _ _ rfl w1.heap.size 44 zrmA (Ms.plain (zM m.k)).toArray rfl rfl (Blk.new' rfl) (rminfoA _) (zrm_siz _) (pm_one _) ?_; intro hy))
  have hbn : Below w1.heap.size w1 ((w1.alloc (.cells zrmA 44)).setRow w1.heap.size (Ms.plain (zM m.k)).toArray) := below_setRow ((Below.refl _ _).alloc (Nat.le_refl _) _) (Nat.le_refl _) _
  obtain ⟨w2, hw2⟩ : ∃ w2, w2 = (w1.alloc (.cells zrmA 44)).setRow w1.heap.size (Ms.plain (zM m.k)).toArray := ⟨_, rfl⟩
  rw [← hw2] at hbn hy ⊢
  obtain ⟨p, hp⟩ : ∃ p, p = w1.heap.size := ⟨_, rfl⟩
  rw [← hp] at hy ⊢
  have hpS : p = W.heap.size + 1 := hp.trans HS1.out
  have HA2 := Lib.hid (HA.out.next hbn)
  have HB2 := Lib.hid (HB.out.trans (hbn.mono HB.out.size))
  have HY := Lib.hid hy
  have HPS := Lib.hid hpS
  have hp1 : W.heap.size < p := by omega
  obtain ⟨_, rl, rx, rs, c0, c1, c2, c3, c4⟩ := pm_all HA2.out
  clear hw2 hp hbn hy HA HB HS1 hpS
  clear rl rx rs c2 c3 c4
  go_upto_region 14 with fail
  clear c0
  cases hd1 : decide (0 < m.se) with
  | false =>
    refine wp_region_tree (S := (fun w' => w'.cell? ⟨W.heap.size, 1, none⟩ = some (.int .i64 m.se))) (.take 0 (.take 1 (.take 2 (.take 3 (.take 4 (.take 5 (.take 6 (.take 7 (.take 8 (.take 9 (.take 10 (.one 11 (.take 12 .nil))))))))))))) 9999 (by kernel_rfl) (by kernel_rfl) (by kernel_rfl) (by kernel_rfl) (by kernel_rfl) (fun _ _ d _ _ h => by cases d <;> exact h) c1 (fun hHeld => ?_); simp only [Tree.map, List.getElem?_toArray, List.getElem?_cons_zero, List.getElem?_cons_succ]
    (repeat (first | (refine wpTree.take (v := undef) (Or.inr ⟨by rfl, rfl⟩) ?_; simp only [Act.put, List.setIfInBounds_toArray, List.set_cons_zero, List.set_cons_succ]) | (refine wpTree.take (v := ?_) (Or.inl ⟨by rfl, ?_⟩) ?_; rotate_left; (focus (intro _ hS; (try dsimp only at hS); go_split_ands; (try subst hS); go_simp; (try (with_reducible rfl)); done)); simp only [Act.put, List.setIfInBounds_toArray, List.set_cons_zero, List.set_cons_succ])))
    obtain ⟨wd, hwd⟩ : ∃ wd, wd = w2.drew := ⟨_, rfl⟩
    have hbd : Below p w2 wd := by rw [hwd]; exact (Below.refl _ _).drew
    have hyd : Blk wd p 44 (Ms.plain (zM m.k)).toArray := by rw [hwd]; exact HY.out.drew
    rw [← hwd]
    clear hwd
    have hkA : wd.cell? ⟨p, 1, none⟩ = some (.int .i64 0) := (pm_all hyd).2.2.2.2.2.1
    have hfA := hyd.frozen 1
    refine wpTree.one (fun K hK => ?_)
    go_simp
    obtain ⟨w4, hw⟩ : ∃ w4, w4 = wd.setCell ⟨p, 1, none⟩ (.int .i64 m.se) := ⟨_, rfl⟩
    have hbw4 : Below p w2 w4 := by rw [hw]; exact Below.setCell (p := ⟨p, 1, none⟩) hbd (Nat.le_refl _) _
    have hyw4 : Blk w4 p 44 (Ms.plain { zM m.k with se := m.se }).toArray := by rw [hw]; exact pm_setH hyd (by omega) rfl rfl rfl rfl
    rw [← hw]
    clear hw hkA hfA
    refine hK.out _ _ ((hbw4.cell (p := ⟨W.heap.size, 1, none⟩) hp1).trans c1) (fun _ => ?_)
    clear hK K
    (try simp only [Act.put, List.setIfInBounds_toArray, List.set_cons_zero, List.set_cons_succ])
    (repeat (first | (refine wpTree.take (v := undef) (Or.inr ⟨by rfl, rfl⟩) ?_; simp only [Act.put, List.setIfInBounds_toArray, List.set_cons_zero, List.set_cons_succ]) | (refine wpTree.take (v := ?_) (Or.inl ⟨by rfl, ?_⟩) ?_; rotate_left; (focus (intro _ hS; (try dsimp only at hS); go_split_ands; (try subst hS); go_simp; (try (with_reducible rfl)); done)); simp only [Act.put, List.setIfInBounds_toArray, List.set_cons_zero, List.set_cons_succ])))
    refine wpTree.done ?_
    clear c1 hHeld hbd hyd
    have hbp : Below p w2 w4 := hbw4
    have HZ := Lib.hid (show Blk w4 p 44 (Ms.plain { zM m.k with se := m.se }).toArray from hyw4)
    have HBF := Lib.hid (HB2.out.trans (hbp.mono (Nat.le_of_lt hp1)))
    have HAF := Lib.hid (blk_below HA2.out hbp hp1)
    have rz := HZ.out.range
    have ra := HAF.out.range
    clear hbp HA2 HB2 HY
    clear hbw4 hyw4
    clear rz ra
    go_wp2_with fail
    go_ret
    exact ⟨by simp [hd1], HBF.out⟩
  | true =>
    cases hd2 : decide (m.se < 13) with
    | false =>
      refine wp_region_tree (S := (fun w' => w'.cell? ⟨W.heap.size, 1, none⟩ = some (.int .i64 m.se))) (.take 0 (.take 1 (.take 2 (.take 3 (.take 4 (.take 5 (.take 6 (.take 7 (.take 8 (.take 9 (.take 10 (.one 11 (.take 12 .nil))))))))))))) 9999 (by kernel_rfl) (by kernel_rfl) (by kernel_rfl) (by kernel_rfl) (by kernel_rfl) (fun _ _ d _ _ h => by cases d <;> exact h) c1 (fun hHeld => ?_); simp only [Tree.map, List.getElem?_toArray, List.getElem?_cons_zero, List.getElem?_cons_succ]
      (repeat (first | (refine wpTree.take (v := undef) (Or.inr ⟨by rfl, rfl⟩) ?_; simp only [Act.put, List.setIfInBounds_toArray, List.set_cons_zero, List.set_cons_succ]) | (refine wpTree.take (v := ?_) (Or.inl ⟨by rfl, ?_⟩) ?_; rotate_left; (focus (intro _ hS; (try dsimp only at hS); go_split_ands; (try subst hS); go_simp; (try (with_reducible rfl)); done)); simp only [Act.put, List.setIfInBounds_toArray, List.set_cons_zero, List.set_cons_succ])))
      obtain ⟨wd, hwd⟩ : ∃ wd, wd = w2.drew := ⟨_, rfl⟩
      have hbd : Below p w2 wd := by rw [hwd]; exact (Below.refl _ _).drew
      have hyd : Blk wd p 44 (Ms.plain (zM m.k)).toArray := by rw [hwd]; exact HY.out.drew
      rw [← hwd]
      clear hwd
      have hkA : wd.cell? ⟨p, 1, none⟩ = some (.int .i64 0) := (pm_all hyd).2.2.2.2.2.1
      have hfA := hyd.frozen 1
      refine wpTree.one (fun K hK => ?_)
      go_simp
      obtain ⟨w4, hw⟩ : ∃ w4, w4 = wd.setCell ⟨p, 1, none⟩ (.int .i64 m.se) := ⟨_, rfl⟩
      have hbw4 : Below p w2 w4 := by rw [hw]; exact Below.setCell (p := ⟨p, 1, none⟩) hbd (Nat.le_refl _) _
      have hyw4 : Blk w4 p 44 (Ms.plain { zM m.k with se := m.se }).toArray := by rw [hw]; exact pm_setH hyd (by omega) rfl rfl rfl rfl
      rw [← hw]
      clear hw hkA hfA
      refine hK.out _ _ ((hbw4.cell (p := ⟨W.heap.size, 1, none⟩) hp1).trans c1) (fun _ => ?_)
      clear hK K
      (try simp only [Act.put, List.setIfInBounds_toArray, List.set_cons_zero, List.set_cons_succ])
      (repeat (first | (refine wpTree.take (v := undef) (Or.inr ⟨by rfl, rfl⟩) ?_; simp only [Act.put, List.setIfInBounds_toArray, List.set_cons_zero, List.set_cons_succ]) | (refine wpTree.take (v := ?_) (Or.inl ⟨by rfl, ?_⟩) ?_; rotate_left; (focus (intro _ hS; (try dsimp only at hS); go_split_ands; (try subst hS); go_simp; (try (with_reducible rfl)); done)); simp only [Act.put, List.setIfInBounds_toArray, List.set_cons_zero, List.set_cons_succ])))
      refine wpTree.done ?_
      clear c1 hHeld hbd hyd
      have hbp : Below p w2 w4 := hbw4
      have HZ := Lib.hid (show Blk w4 p 44 (Ms.plain { zM m.k with se := m.se }).toArray from hyw4)
      have HBF := Lib.hid (HB2.out.trans (hbp.mono (Nat.le_of_lt hp1)))
      have HAF := Lib.hid (blk_below HA2.out hbp hp1)
      have rz := HZ.out.range
      have ra := HAF.out.range
      clear hbp HA2 HB2 HY
      clear hbw4 hyw4
      clear rz ra
      go_wp2_with fail
      go_ret
      exact ⟨by simp [hd1, hd2], HBF.out⟩
    | true =>
      refine wp_region_tree (S := (fun w' => w'.cell? ⟨W.heap.size, 1, none⟩ = some (.int .i64 m.se))) (.take 0 (.take 1 (.take 2 (.take 3 (.take 4 (.take 5 (.take 6 (.take 7 (.take 8 (.take 9 (.take 10 (.one 11 (.take 12 .nil))))))))))))) 9999 (by kernel_rfl) (by kernel_rfl) (by kernel_rfl) (by kernel_rfl) (by kernel_rfl) (fun _ _ d _ _ h => by cases d <;> exact h) c1 (fun hHeld => ?_); simp only [Tree.map, List.getElem?_toArray, List.getElem?_cons_zero, List.getElem?_cons_succ]
      (repeat (first | (refine wpTree.take (v := undef) (Or.inr ⟨by rfl, rfl⟩) ?_; simp only [Act.put, List.setIfInBounds_toArray, List.set_cons_zero, List.set_cons_succ]) | (refine wpTree.take (v := ?_) (Or.inl ⟨by rfl, ?_⟩) ?_; rotate_left; (focus (intro _ hS; (try dsimp only at hS); go_split_ands; (try subst hS); go_simp; (try (with_reducible rfl)); done)); simp only [Act.put, List.setIfInBounds_toArray, List.set_cons_zero, List.set_cons_succ])))
      obtain ⟨wd, hwd⟩ : ∃ wd, wd = w2.drew := ⟨_, rfl⟩
      have hbd : Below p w2 wd := by rw [hwd]; exact (Below.refl _ _).drew
      have hyd : Blk wd p 44 (Ms.plain (zM m.k)).toArray := by rw [hwd]; exact HY.out.drew
      rw [← hwd]
      clear hwd
      have hkA : wd.cell? ⟨p, 1, none⟩ = some (.int .i64 0) := (pm_all hyd).2.2.2.2.2.1
      have hfA := hyd.frozen 1
      refine wpTree.one (fun K hK => ?_)
      go_simp
      obtain ⟨w4, hw⟩ : ∃ w4, w4 = wd.setCell ⟨p, 1, none⟩ (.int .i64 m.se) := ⟨_, rfl⟩
      have hbw4 : Below p w2 w4 := by rw [hw]; exact Below.setCell (p := ⟨p, 1, none⟩) hbd (Nat.le_refl _) _
      have hyw4 : Blk w4 p 44 (Ms.plain { zM m.k with se := m.se }).toArray := by rw [hw]; exact pm_setH hyd (by omega) rfl rfl rfl rfl
      rw [← hw]
      clear hw hkA hfA
      refine hK.out _ _ ((hbw4.cell (p := ⟨W.heap.size, 1, none⟩) hp1).trans c1) (fun _ => ?_)
      clear hK K
      (try simp only [Act.put, List.setIfInBounds_toArray, List.set_cons_zero, List.set_cons_succ])
      (repeat (first | (refine wpTree.take (v := undef) (Or.inr ⟨by rfl, rfl⟩) ?_; simp only [Act.put, List.setIfInBounds_toArray, List.set_cons_zero, List.set_cons_succ]) | (refine wpTree.take (v := ?_) (Or.inl ⟨by rfl, ?_⟩) ?_; rotate_left; (focus (intro _ hS; (try dsimp only at hS); go_split_ands; (try subst hS); go_simp; (try (with_reducible rfl)); done)); simp only [Act.put, List.setIfInBounds_toArray, List.set_cons_zero, List.set_cons_succ])))
      refine wpTree.done ?_
      clear c1 hHeld hbd hyd
      have hbp : Below p w2 w4 := hbw4
      have HZ := Lib.hid (show Blk w4 p 44 (Ms.plain { zM m.k with se := m.se }).toArray from hyw4)
      have HBF := Lib.hid (HB2.out.trans (hbp.mono (Nat.le_of_lt hp1)))
      have HAF := Lib.hid (blk_below HA2.out hbp hp1)
      have rz := HZ.out.range
      have ra := HAF.out.range
      clear hbp HA2 HB2 HY
      clear hbw4 hyw4
      have hq := fun w => eq_rmsg m { zM m.k with se := m.se } w
      go_wp2_with (first | (refine wpList_load_midg (by rfl) 44 _ rfl _ _ rfl (Ms.plain ?_) _ ?_ Tryz.underlying44 rfl (rminfo _) ?_; rotate_left; (focus assumption)))
      go_ret
      exact ⟨by simp [hd1, hd2], HBF.out⟩
set_option maxRecDepth 20000 in
set_option maxHeartbeats 8000000 in
theorem rr_en (m : Ms) (ho : Ms.Lt m) (W : World) (e1 : (m.k == 1) = false) (e2 : (m.k == 2) = false) (e3 : (m.k == 3) = false) (e4 : (m.k == 4) = false) (e5 : (m.k == 5) = true) (e6 : (m.k == 6) = false) (e7 : (m.k == 7) = false) (e8 : (m.k == 8) = false) (e9 : (m.k == 9) = false) (e10 : (m.k == 10) = false) : Calls Tryz.prog 11 #[.agg (Ms.plain m).toArray] W fun e W' => e = .returned (.bool (decide (0 < m.se) && (decide (m.se < 13) && (decide (0 ≤ m.co) && decide (m.co ≤ 200))) && sameM m { zM m.k with se := m.se, co := m.co })) ∧ Below W.heap.size W W' := by
  have bA := Blk.new W 44 (Ms.plain m).toArray
  have hB0 := (Below.refl W.heap.size W).alloc (Nat.le_refl _) (.cells (Ms.plain m).toArray 44)
  obtain ⟨w1, hw1⟩ : ∃ w1, w1 = W.alloc (.cells (Ms.plain m).toArray 44) := ⟨_, rfl⟩
  have hs1 : w1.heap.size = W.heap.size + 1 := by rw [hw1]; simp
  rw [← hw1] at bA hB0
  have HW1 := Lib.hid hw1
  have HA := Lib.hid bA
  have HB := Lib.hid hB0
  have HS1 := Lib.hid hs1
  have HO := Lib.hid ho
  obtain ⟨_, rl, rx, rs, c0, c1, c2, c3, c4⟩ := pm_all bA
  clear bA hB0 hw1 hs1 ho
  go_enter Tryz.func11, Tryz.ntmps11
  go_upto_region 1 with fail
  rw [← HW1.out]
  clear HW1
  go_upto_region 2 with (first | (refine wpList_build_lit (Ms.plain (zM m.k)).toArray rfl 44 _ rfl (built_rzM m.k) ?_) | (refine wpList_store_blk rfl 44 _ _ rfl w1.heap.size 44 zrmA (Ms.plain (zM m.k)).toArray rfl rfl (Blk.new' rfl) (rminfoA _) (zrm_siz _) (pm_one _) ?_; intro hy))
  have hbn : Below w1.heap.size w1 ((w1.alloc (.cells zrmA 44)).setRow w1.heap.size (Ms.plain (zM m.k)).toArray) := below_setRow ((Below.refl _ _).alloc (Nat.le_refl _) _) (Nat.le_refl _) _
  obtain ⟨w2, hw2⟩ : ∃ w2, w2 = (w1.alloc (.cells zrmA 44)).setRow w1.heap.size (Ms.plain (zM m.k)).toArray := ⟨_, rfl⟩
  rw [← hw2] at hbn hy ⊢
  obtain ⟨p, hp⟩ : ∃ p, p = w1.heap.size := ⟨_, rfl⟩
  rw [← hp] at hy ⊢
  have hpS : p = W.heap.size + 1 := hp.trans HS1.out
  have HA2 := Lib.hid (HA.out.next hbn)
  have HB2 := Lib.hid (HB.out.trans (hbn.mono HB.out.size))
  have HY := Lib.hid hy
  have HPS := Lib.hid hpS
  have hp1 : W.heap.size < p := by omega
  obtain ⟨_, rl, rx, rs, c0, c1, c2, c3, c4⟩ := pm_all HA2.out
  clear hw2 hp hbn hy HA HB HS1 hpS
  clear rl rx rs c3 c4
  go_upto_region 16 with fail
  clear c0
  refine wp_region_tree (S := (fun w' => w'.cell? ⟨W.heap.size, 1, none⟩ = some (.int .i64 m.se) ∧ w'.cell? ⟨W.heap.size, 2, none⟩ = some (.int .i64 m.co))) (.take 0 (.take 1 (.take 2 (.take 3 (.take 4 (.one 5 (.take 6 (.one 7 .nil)))))))) 9999 (by kernel_rfl) (by kernel_rfl) (by kernel_rfl) (by kernel_rfl) (by kernel_rfl) (fun _ _ d _ _ h => by cases d <;> exact h) ⟨c1, c2⟩ (fun hHeld => ?_); simp only [Tree.map, List.getElem?_toArray, List.getElem?_cons_zero, List.getElem?_cons_succ]
  (repeat (first | (refine wpTree.take (v := undef) (Or.inr ⟨by rfl, rfl⟩) ?_; simp only [Act.put, List.setIfInBounds_toArray, List.set_cons_zero, List.set_cons_succ]) | (refine wpTree.take (v := ?_) (Or.inl ⟨by rfl, ?_⟩) ?_; rotate_left; (focus (intro _ hS; (try dsimp only at hS); go_split_ands; (try subst hS); go_simp; (try (with_reducible rfl)); done)); simp only [Act.put, List.setIfInBounds_toArray, List.set_cons_zero, List.set_cons_succ])))
  obtain ⟨wd, hwd⟩ : ∃ wd, wd = w2.drew := ⟨_, rfl⟩
  have hbd : Below p w2 wd := by rw [hwd]; exact (Below.refl _ _).drew
  have hyd : Blk wd p 44 (Ms.plain (zM m.k)).toArray := by rw [hwd]; exact HY.out.drew
  rw [← hwd]
  clear hwd
  have hkA : wd.cell? ⟨p, 1, none⟩ = some (.int .i64 0) := (pm_all hyd).2.2.2.2.2.1
  have hfA := hyd.frozen 1
  refine wpTree.one (fun K hK => ?_)
  go_simp
  obtain ⟨w3, hw⟩ : ∃ w3, w3 = wd.setCell ⟨p, 1, none⟩ (.int .i64 m.se) := ⟨_, rfl⟩
  have hbw3 : Below p w2 w3 := by rw [hw]; exact Below.setCell (p := ⟨p, 1, none⟩) hbd (Nat.le_refl _) _
  have hyw3 : Blk w3 p 44 (Ms.plain { zM m.k with se := m.se }).toArray := by rw [hw]; exact pm_setH hyd (by omega) rfl rfl rfl rfl
  rw [← hw]
  clear hw hkA hfA
  refine hK.out _ _ ⟨(hbw3.cell (p := ⟨W.heap.size, 1, none⟩) hp1).trans c1, (hbw3.cell (p := ⟨W.heap.size, 2, none⟩) hp1).trans c2⟩ (fun _ => ?_)
  clear hK K
  (try simp only [Act.put, List.setIfInBounds_toArray, List.set_cons_zero, List.set_cons_succ])
  (repeat (first | (refine wpTree.take (v := undef) (Or.inr ⟨by rfl, rfl⟩) ?_; simp only [Act.put, List.setIfInBounds_toArray, List.set_cons_zero, List.set_cons_succ]) | (refine wpTree.take (v := ?_) (Or.inl ⟨by rfl, ?_⟩) ?_; rotate_left; (focus (intro _ hS; (try dsimp only at hS); go_split_ands; (try subst hS); go_simp; (try (with_reducible rfl)); done)); simp only [Act.put, List.setIfInBounds_toArray, List.set_cons_zero, List.set_cons_succ])))
  have hkA : w3.cell? ⟨p, 2, none⟩ = some (.int .i64 0) := (pm_all hyw3).2.2.2.2.2.2.1
  have hfA := hyw3.frozen 2
  refine wpTree.one (fun K hK => ?_)
  go_simp
  obtain ⟨w4, hw⟩ : ∃ w4, w4 = w3.setCell ⟨p, 2, none⟩ (.int .i64 m.co) := ⟨_, rfl⟩
  have hbw4 : Below p w2 w4 := by rw [hw]; exact Below.setCell (p := ⟨p, 2, none⟩) hbw3 (Nat.le_refl _) _
  have hyw4 : Blk w4 p 44 (Ms.plain { zM m.k with se := m.se, co := m.co }).toArray := by rw [hw]; exact pm_setH hyw3 (by omega) rfl rfl rfl rfl
  rw [← hw]
  clear hw hkA hfA
  refine hK.out _ _ ⟨(hbw4.cell (p := ⟨W.heap.size, 1, none⟩) hp1).trans c1, (hbw4.cell (p := ⟨W.heap.size, 2, none⟩) hp1).trans c2⟩ (fun _ => ?_)
  clear hK K
  (try simp only [Act.put, List.setIfInBounds_toArray, List.set_cons_zero, List.set_cons_succ])
  (repeat (first | (refine wpTree.take (v := undef) (Or.inr ⟨by rfl, rfl⟩) ?_; simp only [Act.put, List.setIfInBounds_toArray, List.set_cons_zero, List.set_cons_succ]) | (refine wpTree.take (v := ?_) (Or.inl ⟨by rfl, ?_⟩) ?_; rotate_left; (focus (intro _ hS; (try dsimp only at hS); go_split_ands; (try subst hS); go_simp; (try (with_reducible rfl)); done)); simp only [Act.put, List.setIfInBounds_toArray, List.set_cons_zero, List.set_cons_succ])))
  refine wpTree.done ?_
  clear c1 c2 hHeld hbd hyd hbw3 hyw3
  obtain ⟨_, _, _, _, _, c1, c2, _, _⟩ := pm_all (blk_below HA2.out hbw4 hp1)
  have hbp : Below p w2 w4 := hbw4
  have HZ := Lib.hid (show Blk w4 p 44 (Ms.plain { zM m.k with se := m.se, co := m.co }).toArray from hyw4)
  have HBF := Lib.hid (HB2.out.trans (hbp.mono (Nat.le_of_lt hp1)))
  have HAF := Lib.hid (blk_below HA2.out hbp hp1)
  have rz := HZ.out.range
  have ra := HAF.out.range
  clear hbp HA2 HB2 HY
  clear hbw4 hyw4
  cases hd1 : decide (0 < m.se) with
  | false =>
    clear rz ra
    go_wp2_with fail
    go_ret
    exact ⟨by simp [hd1], HBF.out⟩
  | true =>
    cases hd2 : decide (m.se < 13) with
    | false =>
      clear rz ra
      go_wp2_with fail
      go_ret
      exact ⟨by simp [hd1, hd2], HBF.out⟩
    | true =>
      cases hd3 : decide (0 ≤ m.co) with
      | false =>
        clear rz ra
        go_wp2_with fail
        go_ret
        exact ⟨by simp [hd1, hd2, hd3], HBF.out⟩
      | true =>
        cases hd4 : decide (m.co ≤ 200) with
        | false =>
          clear rz ra
          go_wp2_with fail
          go_ret
          exact ⟨by simp [hd1, hd2, hd3, hd4], HBF.out⟩
        | true =>
          have hq := fun w => eq_rmsg m { zM m.k with se := m.se, co := m.co } w
          go_wp2_with (first | (refine wpList_load_midg (by rfl) 44 _ rfl _ _ rfl (Ms.plain ?_) _ ?_ Tryz.underlying44 rfl (rminfo _) ?_; rotate_left; (focus assumption)))
          go_ret
          exact ⟨by simp [hd1, hd2, hd3, hd4], HBF.out⟩
set_option maxRecDepth 20000 in
set_option maxHeartbeats 8000000 in
theorem rr_st (m : Ms) (ho : Ms.Lt m) (W : World) (e1 : (m.k == 1) = false) (e2 : (m.k == 2) = false) (e3 : (m.k == 3) = false) (e4 : (m.k == 4) = false) (e5 : (m.k == 5) = false) (e6 : (m.k == 6) = false) (e7 : (m.k == 7) = false) (e8 : (m.k == 8) = false) (e9 : (m.k == 9) = false) (e10 : (m.k == 10) = true) : Calls Tryz.prog 11 #[.agg (Ms.plain m).toArray] W fun e W' => e = .returned (.bool (decide (0 < m.ca) && (decide (m.ca < 13) && (decide (0 < m.ro) && (decide (m.ro < 22) && rightS m.s))) && sameM m { zM m.k with ca := m.ca, ro := m.ro, s := m.s })) ∧ Below W.heap.size W W' := by
  have bA := Blk.new W 44 (Ms.plain m).toArray
  have hB0 := (Below.refl W.heap.size W).alloc (Nat.le_refl _) (.cells (Ms.plain m).toArray 44)
  obtain ⟨w1, hw1⟩ : ∃ w1, w1 = W.alloc (.cells (Ms.plain m).toArray 44) := ⟨_, rfl⟩
  have hs1 : w1.heap.size = W.heap.size + 1 := by rw [hw1]; simp
  rw [← hw1] at bA hB0
  have HW1 := Lib.hid hw1
  have HA := Lib.hid bA
  have HB := Lib.hid hB0
  have HS1 := Lib.hid hs1
  have HO := Lib.hid ho
  obtain ⟨_, rl, rx, rs, c0, c1, c2, c3, c4⟩ := pm_all bA
  clear bA hB0 hw1 hs1 ho
  go_enter Tryz.func11, Tryz.ntmps11
  go_upto_region 1 with fail
  rw [← HW1.out]
  clear HW1
  go_upto_region 2 with (first | (refine wpList_build_lit (Ms.plain (zM m.k)).toArray rfl 44 _ rfl (built_rzM m.k) ?_) | (refine wpList_store_blk rfl 44 _ _ rfl w1.heap.size 44 zrmA (Ms.plain (zM m.k)).toArray rfl rfl (Blk.new' rfl) (rminfoA _) (zrm_siz _) (pm_one _) ?_; intro hy))
  have hbn : Below w1.heap.size w1 ((w1.alloc (.cells zrmA 44)).setRow w1.heap.size (Ms.plain (zM m.k)).toArray) := below_setRow ((Below.refl _ _).alloc (Nat.le_refl _) _) (Nat.le_refl _) _
  obtain ⟨w2, hw2⟩ : ∃ w2, w2 = (w1.alloc (.cells zrmA 44)).setRow w1.heap.size (Ms.plain (zM m.k)).toArray := ⟨_, rfl⟩
  rw [← hw2] at hbn hy ⊢
  obtain ⟨p, hp⟩ : ∃ p, p = w1.heap.size := ⟨_, rfl⟩
  rw [← hp] at hy ⊢
  have hpS : p = W.heap.size + 1 := hp.trans HS1.out
  have HA2 := Lib.hid (HA.out.next hbn)
  have HB2 := Lib.hid (HB.out.trans (hbn.mono HB.out.size))
  have HY := Lib.hid hy
  have HPS := Lib.hid hpS
  have hp1 : W.heap.size < p := by omega
  obtain ⟨_, rl, rx, rs, c0, c1, c2, c3, c4⟩ := pm_all HA2.out
  clear hw2 hp hbn hy HA HB HS1 hpS
  clear rl rx c1 c2
  go_upto_region 19 with fail
  clear c0
  refine wp_region_tree (S := (fun w' => w'.cell? ⟨W.heap.size, 3, none⟩ = some (.int .i64 m.ca) ∧ w'.cell? ⟨W.heap.size, 4, none⟩ = some (.int .i64 m.ro) ∧ w'.rangeAt W.heap.size 43 m.s.cells)) (.take 0 (.take 1 (.take 2 (.take 3 (.take 4 (.take 5 (.take 6 (.one 7 (.take 8 (.one 9 (.take 10 (.one 11 .nil)))))))))))) 9999 (by kernel_rfl) (by kernel_rfl) (by kernel_rfl) (by kernel_rfl) (by kernel_rfl) (fun _ _ d _ _ h => by cases d <;> exact h) ⟨c3, c4, rs⟩ (fun hHeld => ?_); simp only [Tree.map, List.getElem?_toArray, List.getElem?_cons_zero, List.getElem?_cons_succ]
  (repeat (first | (refine wpTree.take (v := undef) (Or.inr ⟨by rfl, rfl⟩) ?_; simp only [Act.put, List.setIfInBounds_toArray, List.set_cons_zero, List.set_cons_succ]) | (refine wpTree.take (v := .agg (St.cells ?_).toArray) (yieldsIf_load_mid rfl 42 _ rfl _ _ rfl (St.cells _) _ ?_ Tryz.underlying42 rfl (rstinfo _)) ?_; rotate_left; (focus (intro _ hS; exact hS.2.2)); simp only [Act.put, List.setIfInBounds_toArray, List.set_cons_zero, List.set_cons_succ]) | (refine wpTree.take (v := ?_) (Or.inl ⟨by rfl, ?_⟩) ?_; rotate_left; (focus (intro _ hS; (try dsimp only at hS); go_split_ands; (try subst hS); go_simp; (try (with_reducible rfl)); done)); simp only [Act.put, List.setIfInBounds_toArray, List.set_cons_zero, List.set_cons_succ])))
  obtain ⟨wd, hwd⟩ : ∃ wd, wd = w2.drew := ⟨_, rfl⟩
  have hbd : Below p w2 wd := by rw [hwd]; exact (Below.refl _ _).drew
  have hyd : Blk wd p 44 (Ms.plain (zM m.k)).toArray := by rw [hwd]; exact HY.out.drew
  rw [← hwd]
  clear hwd
  have hkA : wd.cell? ⟨p, 3, none⟩ = some (.int .i64 0) := (pm_all hyd).2.2.2.2.2.2.2.1
  have hfA := hyd.frozen 3
  refine wpTree.one (fun K hK => ?_)
  go_simp
  obtain ⟨w3, hw⟩ : ∃ w3, w3 = wd.setCell ⟨p, 3, none⟩ (.int .i64 m.ca) := ⟨_, rfl⟩
  have hbw3 : Below p w2 w3 := by rw [hw]; exact Below.setCell (p := ⟨p, 3, none⟩) hbd (Nat.le_refl _) _
  have hyw3 : Blk w3 p 44 (Ms.plain { zM m.k with ca := m.ca }).toArray := by rw [hw]; exact pm_setH hyd (by omega) rfl rfl rfl rfl
  rw [← hw]
  clear hw hkA hfA
  refine hK.out _ _ ⟨(hbw3.cell (p := ⟨W.heap.size, 3, none⟩) hp1).trans c3, (hbw3.cell (p := ⟨W.heap.size, 4, none⟩) hp1).trans c4, fun j v hj => (hbw3.cell (p := ⟨W.heap.size, 43 + j, none⟩) hp1).trans (rs j v hj)⟩ (fun _ => ?_)
  clear hK K
  (try simp only [Act.put, List.setIfInBounds_toArray, List.set_cons_zero, List.set_cons_succ])
  (repeat (first | (refine wpTree.take (v := undef) (Or.inr ⟨by rfl, rfl⟩) ?_; simp only [Act.put, List.setIfInBounds_toArray, List.set_cons_zero, List.set_cons_succ]) | (refine wpTree.take (v := ?_) (Or.inl ⟨by rfl, ?_⟩) ?_; rotate_left; (focus (intro _ hS; (try dsimp only at hS); go_split_ands; (try subst hS); go_simp; (try (with_reducible rfl)); done)); simp only [Act.put, List.setIfInBounds_toArray, List.set_cons_zero, List.set_cons_succ])))
  have hkA : w3.cell? ⟨p, 4, none⟩ = some (.int .i64 0) := (pm_all hyw3).2.2.2.2.2.2.2.2
  have hfA := hyw3.frozen 4
  refine wpTree.one (fun K hK => ?_)
  go_simp
  obtain ⟨w4, hw⟩ : ∃ w4, w4 = w3.setCell ⟨p, 4, none⟩ (.int .i64 m.ro) := ⟨_, rfl⟩
  have hbw4 : Below p w2 w4 := by rw [hw]; exact Below.setCell (p := ⟨p, 4, none⟩) hbw3 (Nat.le_refl _) _
  have hyw4 : Blk w4 p 44 (Ms.plain { zM m.k with ca := m.ca, ro := m.ro }).toArray := by rw [hw]; exact pm_setH hyw3 (by omega) rfl rfl rfl rfl
  rw [← hw]
  clear hw hkA hfA
  refine hK.out _ _ ⟨(hbw4.cell (p := ⟨W.heap.size, 3, none⟩) hp1).trans c3, (hbw4.cell (p := ⟨W.heap.size, 4, none⟩) hp1).trans c4, fun j v hj => (hbw4.cell (p := ⟨W.heap.size, 43 + j, none⟩) hp1).trans (rs j v hj)⟩ (fun _ => ?_)
  clear hK K
  (try simp only [Act.put, List.setIfInBounds_toArray, List.set_cons_zero, List.set_cons_succ])
  (repeat (first | (refine wpTree.take (v := undef) (Or.inr ⟨by rfl, rfl⟩) ?_; simp only [Act.put, List.setIfInBounds_toArray, List.set_cons_zero, List.set_cons_succ]) | (refine wpTree.take (v := ?_) (Or.inl ⟨by rfl, ?_⟩) ?_; rotate_left; (focus (intro _ hS; (try dsimp only at hS); go_split_ands; (try subst hS); go_simp; (try (with_reducible rfl)); done)); simp only [Act.put, List.setIfInBounds_toArray, List.set_cons_zero, List.set_cons_succ])))
  have hth := hyw4.thereT (o := 43) (n := m.s.cells.toArray.size) (by rw [List.size_toArray, List.size_toArray, pm_len, st_len]; omega)
  refine wpTree.one (fun K hK => ?_)
  rw [if_pos (by rfl)]
  refine wp_store_mid 42 _ _ rfl p 43 m.s.cells.toArray rfl rfl hth (rstinfoA _) (st_one _) ?_
  show K _ (w4.setCells p 43 m.s.cells)
  obtain ⟨w5, hw5⟩ : ∃ w5, w5 = w4.setCells p 43 m.s.cells := ⟨_, rfl⟩
  have hb5 : Below p w2 w5 := by rw [hw5]; exact setCells_below (Nat.le_refl _) _ _ _ hbw4
  have hy5 := pm_setS hyw4 m.s
  rw [← hw5] at hy5 ⊢
  clear hw5
  refine hK.out _ _ ⟨(hb5.cell (p := ⟨W.heap.size, 3, none⟩) hp1).trans c3, (hb5.cell (p := ⟨W.heap.size, 4, none⟩) hp1).trans c4, fun j v hj => (hb5.cell (p := ⟨W.heap.size, 43 + j, none⟩) hp1).trans (rs j v hj)⟩ (fun _ => ?_)
  clear hK K
  (try simp only [Act.put, List.setIfInBounds_toArray, List.set_cons_zero, List.set_cons_succ])
  refine wpTree.done ?_
  clear c3 c4 rs hHeld hbd hyd hbw3 hyw3 hbw4 hyw4 hth
  obtain ⟨_, _, _, rs, _, _, _, c3, c4⟩ := pm_all (blk_below HA2.out hb5 hp1)
  have hbp : Below p w2 w5 := hb5
  have HZ := Lib.hid (show Blk w5 p 44 (Ms.plain { zM m.k with ca := m.ca, ro := m.ro, s := m.s }).toArray from hy5)
  have HBF := Lib.hid (HB2.out.trans (hbp.mono (Nat.le_of_lt hp1)))
  have HAF := Lib.hid (blk_below HA2.out hbp hp1)
  have rz := HZ.out.range
  have ra := HAF.out.range
  clear hbp HA2 HB2 HY
  clear hb5 hy5
  cases hd1 : decide (0 < m.ca) with
  | false =>
    clear rz ra
    go_wp2_with fail
    go_ret
    exact ⟨by simp [hd1], HBF.out⟩
  | true =>
    cases hd2 : decide (m.ca < 13) with
    | false =>
      clear rz ra
      go_wp2_with fail
      go_ret
      exact ⟨by simp [hd1, hd2], HBF.out⟩
    | true =>
      cases hd3 : decide (0 < m.ro) with
      | false =>
        clear rz ra
        go_wp2_with fail
        go_ret
        exact ⟨by simp [hd1, hd2, hd3], HBF.out⟩
      | true =>
        cases hd4 : decide (m.ro < 22) with
        | false =>
          clear rz ra
          go_wp2_with fail
          go_ret
          exact ⟨by simp [hd1, hd2, hd3, hd4], HBF.out⟩
        | true =>
          have HRS := Lib.hid (fun w => rright11_any m.s w)
          have hq := fun w => eq_rmsg m { zM m.k with ca := m.ca, ro := m.ro, s := m.s } w
          rcases hok : rightS m.s with _ | _
          · rw [hok] at HRS
            clear rz ra hq
            go_wp2_with (first | (refine wpList_load_midg (by rfl) 42 _ rfl _ _ rfl (St.cells ?_) _ ?_ Tryz.underlying42 rfl (rstinfo _) ?_; rotate_left; (focus assumption)) | (go_at_call 52; refine (HRS.out _).mono ?_; rintro e w6 ⟨rfl, hb⟩; have HBG := Lib.hid (HBF.out.trans (hb.mono HBF.out.size)); clear hb rs c3 c4 HRS))
            go_ret
            exact ⟨by simp [hok, hd1, hd2, hd3, hd4], HBG.out⟩
          · rw [hok] at HRS
            go_wp2_with (first | (refine wpList_load_midg (by rfl) 42 _ rfl _ _ rfl (St.cells ?_) _ ?_ Tryz.underlying42 rfl (rstinfo _) ?_; rotate_left; (focus assumption)) | (go_at_call 52; refine (HRS.out _).mono ?_; rintro e w6 ⟨rfl, hb⟩; have HBG := Lib.hid (HBF.out.trans (hb.mono HBF.out.size)); have rz6 := (HZ.out.next hb).range; have ra6 := (HAF.out.next hb).range; clear hb rs c3 c4 HRS rz ra) | (refine wpList_load_midg (by rfl) 44 _ rfl _ _ rfl (Ms.plain ?_) _ ?_ Tryz.underlying44 rfl (rminfo _) ?_; rotate_left; (focus assumption)))
            go_ret
            exact ⟨by simp [hok, hd1, hd2, hd3, hd4], HBG.out⟩
theorem within_dec {n a b c d : Int} (h1 : c = a - 1) (h2 : d = b + 1) : (decide (c < n) && decide (n < d)) = withinB n a b := by
  unfold withinB
  rw [Bool.eq_iff_iff]
  simp only [Bool.and_eq_true, decide_eq_true_eq]
  omega
theorem rright23_any (m : Ms) (ho : Ms.Lt m) (W : World) : Calls Tryz.prog 11 #[.agg (Ms.plain m).toArray] W fun e W' => e = .returned (.bool (rightM m)) ∧ Below W.heap.size W W' := by
  have hm : ∀ {b : Bool} {Z : Ms}, Z = partsM m → (sameM m (partsM m) = true → b = bodyM m) → (b && sameM m Z) = rightM m := by
    intro b Z h1 h2
    subst h1
    unfold rightM
    cases h : sameM m (partsM m) with
    | false => simp
    | true => rw [h2 h]; simp
  have conv : ∀ {b : Bool}, b = rightM m → Calls Tryz.prog 11 #[.agg (Ms.plain m).toArray] W (fun e W' => e = .returned (.bool b) ∧ Below W.heap.size W W') → Calls Tryz.prog 11 #[.agg (Ms.plain m).toArray] W fun e W' => e = .returned (.bool (rightM m)) ∧ Below W.heap.size W W' := by
    intro b h1 h2; rwa [h1] at h2
  rcases kd_any m.k with ⟨h0, h1, h2, h3, h4, h5⟩ | ⟨h0, h1, h2, h3, h4, h5⟩ | ⟨h0, h1, h2, h3, h4, h5⟩ | ⟨h0, h1, h2, h3, h4, h5⟩ | ⟨h0, h1, h2, h3, h4, h5⟩ | ⟨h0, h1, h2, h3, h4, h5⟩
  · refine conv (hm (by unfold partsM zM; rw [h1, h2, h3, h4, h5]; rfl) fun _ => by unfold bodyM; rw [h1]; rfl) (rr_lab m ho W (by simp [h0]) (by simp [h0]) (by simp [h0]) (by simp [h0]) (by simp [h0]) (by simp [h0]) (by simp [h0]) (by simp [h0]) (by simp [h0]) (by simp [h0]))
  · rcases h0 with h0 | h0
    · refine conv (hm (by unfold partsM zM; rw [h1, h2, h3, h4, h5]; rfl) fun _ => by unfold bodyM; rw [h1, h2]; rfl) (rr_ev2 m ho W (by simp [h0]) (by simp [h0]) (by simp [h0]) (by simp [h0]) (by simp [h0]) (by simp [h0]) (by simp [h0]) (by simp [h0]) (by simp [h0]) (by simp [h0]))
    · refine conv (hm (by unfold partsM zM; rw [h1, h2, h3, h4, h5]; rfl) fun _ => by unfold bodyM; rw [h1, h2]; rfl) (rr_ev3 m ho W (by simp [h0]) (by simp [h0]) (by simp [h0]) (by simp [h0]) (by simp [h0]) (by simp [h0]) (by simp [h0]) (by simp [h0]) (by simp [h0]) (by simp [h0]))
  · have hb : sameM m (partsM m) = true → (decide (0 < m.se) && decide (m.se < 13)) = bodyM m := fun h => by
      unfold bodyM
      rw [h1, h2, h3, same_co h h5, within_dec (a := 1) (b := 12) (by omega) (by omega)]
      simp [withinB]
    rcases h0 with h0 | h0 | h0 | h0 | h0
    · exact conv (hm (by unfold partsM zM; rw [h1, h2, h3, h4, h5]; rfl) hb) (rr_sel4 m ho W (by simp [h0]) (by simp [h0]) (by simp [h0]) (by simp [h0]) (by simp [h0]) (by simp [h0]) (by simp [h0]) (by simp [h0]) (by simp [h0]) (by simp [h0]))
    · exact conv (hm (by unfold partsM zM; rw [h1, h2, h3, h4, h5]; rfl) hb) (rr_sel6 m ho W (by simp [h0]) (by simp [h0]) (by simp [h0]) (by simp [h0]) (by simp [h0]) (by simp [h0]) (by simp [h0]) (by simp [h0]) (by simp [h0]) (by simp [h0]))
    · exact conv (hm (by unfold partsM zM; rw [h1, h2, h3, h4, h5]; rfl) hb) (rr_sel7 m ho W (by simp [h0]) (by simp [h0]) (by simp [h0]) (by simp [h0]) (by simp [h0]) (by simp [h0]) (by simp [h0]) (by simp [h0]) (by simp [h0]) (by simp [h0]))
    · exact conv (hm (by unfold partsM zM; rw [h1, h2, h3, h4, h5]; rfl) hb) (rr_sel8 m ho W (by simp [h0]) (by simp [h0]) (by simp [h0]) (by simp [h0]) (by simp [h0]) (by simp [h0]) (by simp [h0]) (by simp [h0]) (by simp [h0]) (by simp [h0]))
    · exact conv (hm (by unfold partsM zM; rw [h1, h2, h3, h4, h5]; rfl) hb) (rr_sel9 m ho W (by simp [h0]) (by simp [h0]) (by simp [h0]) (by simp [h0]) (by simp [h0]) (by simp [h0]) (by simp [h0]) (by simp [h0]) (by simp [h0]) (by simp [h0]))
  · refine conv (hm (by unfold partsM zM; rw [h1, h2, h3, h4, h5]; rfl) fun _ => ?_) (rr_en m ho W (by simp [h0]) (by simp [h0]) (by simp [h0]) (by simp [h0]) (by simp [h0]) (by simp [h0]) (by simp [h0]) (by simp [h0]) (by simp [h0]) (by simp [h0]))
    unfold bodyM
    rw [h1, h2, h3, ← within_dec (n := m.se) (a := 1) (b := 12) (c := 0) (d := 13) (by omega) (by omega)]
    simp [withinB, Bool.and_assoc]
  · refine conv (hm (by unfold partsM zM; rw [h1, h2, h3, h4, h5]; rfl) fun _ => ?_) (rr_st m ho W (by simp [h0]) (by simp [h0]) (by simp [h0]) (by simp [h0]) (by simp [h0]) (by simp [h0]) (by simp [h0]) (by simp [h0]) (by simp [h0]) (by simp [h0]))
    unfold bodyM
    rw [h1, h2, h3, h4, ← within_dec (n := m.ca) (a := 1) (b := 12) (c := 0) (d := 13) (by omega) (by omega), ← within_dec (n := m.ro) (a := 1) (b := 21) (c := 0) (d := 22) (by omega) (by omega)]
    simp [Bool.and_assoc]
  · refine conv (hm (by unfold partsM zM; rw [h1, h2, h3, h4, h5]; rfl) fun _ => by unfold bodyM; rw [h1, h2, h3, h4]; rfl) (rr_no m ho W (by simp; omega) (by simp; omega) (by simp; omega) (by simp; omega) (by simp; omega) (by simp; omega) (by simp; omega) (by simp; omega) (by simp; omega) (by simp; omega))
end Mg
end Go.Proofs.YtkigaclcmodjaaaGreat

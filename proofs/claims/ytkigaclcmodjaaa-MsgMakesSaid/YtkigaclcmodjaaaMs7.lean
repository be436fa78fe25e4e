/-
msg: the makers; plain data as messages; what came in.
-/
import Derived.Test.YtkigaclcmodjaaaMs6
namespace Go.Proofs.Ytkigaclcmodjaaa
open Go.RowKit Go.ChangeShapes Go.WideShapes Go.ChangeAt
set_option linter.unusedSimpArgs false
set_option linter.unusedVariables false
namespace Mg
def pM : Nat → Option (Nat × Nat) := (#[(0, 1), (1, 1), (2, 1), (3, 1), (4, 1), (5, 17), (22, 21), (43, 14)][·]?)
theorem built_fillM (parts : List (Nat × Value)) : Try.prog.built 50 parts = Instr.fill pM (zM 0).cells.toArray parts := by rw [zM_cells]; kernel_rfl
theorem p0M : pM 0 = some (0, 1) := rfl
theorem p1M : pM 1 = some (1, 1) := rfl
theorem p2M : pM 2 = some (2, 1) := rfl
theorem p3M : pM 3 = some (3, 1) := rfl
theorem p4M : pM 4 = some (4, 1) := rfl
theorem p5M : pM 5 = some (5, 17) := rfl
theorem p6M : pM 6 = some (22, 21) := rfl
theorem p7M : pM 7 = some (43, 14) := rfl
attribute [irreducible] pM
section
variable (m : Ms) (rest : List (Nat × Value))
theorem ms_arr : m.cells.toArray = (.int .i64 m.k :: .int .i64 m.se :: .int .i64 m.co :: .int .i64 m.ca :: .int .i64 m.ro :: (m.l.cells ++ m.x.cells ++ m.s.cells)).toArray := by
  rw [ms_def]; unfold Ms.hd; simp [List.append_assoc]
theorem fill_k (v : Int) : Instr.fill pM m.cells.toArray ((0, .int .i64 v) :: rest) = Instr.fill pM ({ m with k := v } : Ms).cells.toArray rest := by
  rw [ms_arr, ms_arr]; exact fill_scM (pre := []) p0M rfl rfl
theorem fill_se (v : Int) : Instr.fill pM m.cells.toArray ((1, .int .i64 v) :: rest) = Instr.fill pM ({ m with se := v } : Ms).cells.toArray rest := by
  rw [ms_arr, ms_arr]; exact fill_scM (pre := [_]) p1M rfl rfl
theorem fill_co (v : Int) : Instr.fill pM m.cells.toArray ((2, .int .i64 v) :: rest) = Instr.fill pM ({ m with co := v } : Ms).cells.toArray rest := by
  rw [ms_arr, ms_arr]; exact fill_scM (pre := [_, _]) p2M rfl rfl
theorem fill_ca (v : Int) : Instr.fill pM m.cells.toArray ((3, .int .i64 v) :: rest) = Instr.fill pM ({ m with ca := v } : Ms).cells.toArray rest := by
  rw [ms_arr, ms_arr]; exact fill_scM (pre := [_, _, _]) p3M rfl rfl
theorem fill_ro (v : Int) : Instr.fill pM m.cells.toArray ((4, .int .i64 v) :: rest) = Instr.fill pM ({ m with ro := v } : Ms).cells.toArray rest := by
  rw [ms_arr, ms_arr]; exact fill_scM (pre := [_, _, _, _]) p4M rfl rfl
theorem fill_l (l : Lab) : Instr.fill pM m.cells.toArray ((5, .agg l.cells.toArray) :: rest) = Instr.fill pM ({ m with l := l } : Ms).cells.toArray rest := by
  rw [ms_def, ms_def, List.append_assoc, List.append_assoc, List.append_assoc]
  exact fill_one (pre := m.hd) (mid := m.l.cells) (post := m.x.cells ++ m.s.cells) (by rw [p5M, lab_len]; rfl) rfl (by rw [lab_len, lab_len])
theorem fill_x (x : Ev) : Instr.fill pM m.cells.toArray ((6, .agg x.cells.toArray) :: rest) = Instr.fill pM ({ m with x := x } : Ms).cells.toArray rest := by
  rw [ms_def, ms_def, List.append_assoc, List.append_assoc _ _ ({ m with x := x } : Ms).s.cells]
  exact fill_one (pre := m.hd ++ m.l.cells) (mid := m.x.cells) (post := m.s.cells) (by rw [p6M, ev_len]) (by rw [List.length_append, hd_len, lab_len]) (by rw [ev_len, ev_len])
theorem fill_s (s : St) : Instr.fill pM m.cells.toArray ((7, .agg s.cells.toArray) :: rest) = Instr.fill pM ({ m with s := s } : Ms).cells.toArray rest := by
  have := fill_one (place := pM) (i := 7) (off := 43) (cs := s.cells) (pre := m.hd ++ m.l.cells ++ m.x.cells) (mid := m.s.cells) (post := []) (rest := rest) (by rw [p7M, st_len]) (by simp only [List.length_append, hd_len, lab_len, ev_len]) (by rw [st_len, st_len])
  rw [List.append_nil, List.append_nil] at this
  rw [ms_def, ms_def]
  exact this
end
theorem built_of (l : Lab) : Try.prog.built 50 [(0, .int .i64 1), (5, .agg l.cells.toArray)] = some ({ zM 1 with l := l } : Ms).cells.toArray := by
  rw [built_fillM, fill_k, fill_l, Instr.fill]; rfl
theorem built_ev (k : Int) (x : Ev) : Try.prog.built 50 [(0, .int .i64 k), (6, .agg x.cells.toArray)] = some ({ zM k with x := x } : Ms).cells.toArray := by
  rw [built_fillM, fill_k, fill_x, Instr.fill]; rfl
theorem built_ask (k s : Int) : Try.prog.built 50 [(0, .int .i64 k), (1, .int .i64 s)] = some ({ zM k with se := s } : Ms).cells.toArray := by
  rw [built_fillM, fill_k, fill_se, Instr.fill]; rfl
theorem built_end (s c : Int) : Try.prog.built 50 [(0, .int .i64 5), (1, .int .i64 s), (2, .int .i64 c)] = some ({ zM 5 with se := s, co := c } : Ms).cells.toArray := by
  rw [built_fillM, fill_k, fill_se, fill_co, Instr.fill]; rfl
theorem built_say (c r : Int) (s : St) : Try.prog.built 50 [(0, .int .i64 10), (3, .int .i64 c), (4, .int .i64 r), (7, .agg s.cells.toArray)] = some ({ zM 10 with ca := c, ro := r, s := s } : Ms).cells.toArray := by
  rw [built_fillM, fill_k, fill_ca, fill_ro, fill_s, Instr.fill]; rfl
theorem built_all (m : Ms) : Try.prog.built 50 [(0, .int .i64 m.k), (1, .int .i64 m.se), (2, .int .i64 m.co), (3, .int .i64 m.ca), (4, .int .i64 m.ro), (5, .agg m.l.cells.toArray), (6, .agg m.x.cells.toArray), (7, .agg m.s.cells.toArray)] = some m.cells.toArray := by
  rw [built_fillM, fill_k, fill_se, fill_co, fill_ca, fill_ro, fill_l, fill_x, fill_s, Instr.fill]
set_option maxRecDepth 20000 in
set_option maxHeartbeats 4000000 in
theorem of_any (l : Lab) (W : World) : Calls Try.prog 9 #[.agg l.cells.toArray] W fun e W' => e = .returned (.agg ({ zM 1 with l := l } : Ms).cells.toArray) ∧ Below W.heap.size W W' := by
  have bA := (Blk.new W 27 l.cells.toArray).alloc (.cells zmsA 50)
  have bR : Blk ((W.alloc (.cells l.cells.toArray 27)).alloc (.cells zmsA 50)) (W.heap.size + 1) 50 zmsA := Blk.new' (by simp)
  have hB := Lib.hid (((Below.refl W.heap.size W).alloc (Nat.le_refl _) (.cells l.cells.toArray 27)).alloc (by simp) (.cells zmsA 50))
  have r0 := bA.range
  clear bA
  have hbl := built_of l
  obtain ⟨m, hm⟩ : ∃ m : Ms, m = { zM 1 with l := l } := ⟨_, rfl⟩
  rw [← hm] at hbl ⊢
  clear hm
  go_enter Try.func9, Try.ntmps9
  go_wp2_with (first | (refine wpList_load_midg (by rfl) 27 _ rfl _ _ rfl (Lab.cells ?_) _ ?_ Try.underlying27 rfl (linfo _) ?_; rotate_left; (focus assumption)) | (refine wpList_build_lit m.cells.toArray rfl 50 _ rfl hbl ?_) | (refine wpList_store_blk rfl 50 _ _ rfl (W.heap.size + 1) 50 _ m.cells.toArray rfl rfl bR (msinfoA _) (zms_siz _) (ms_one _) ?_; intro hrow))
  exact bodyPost_row (t := 50) m.cells.toArray rfl rfl rfl Try.underlying50 rfl (msinfoA _) hrow ⟨rfl, below_setRow hB.out (by omega) _⟩
set_option maxRecDepth 20000 in
set_option maxHeartbeats 4000000 in
theorem hand_any (x : Ev) (W : World) : Calls Try.prog 11 #[.agg x.cells.toArray] W fun e W' => e = .returned (.agg ({ zM 2 with x := x } : Ms).cells.toArray) ∧ Below W.heap.size W W' := by
  have bA := (Blk.new W 48 x.cells.toArray).alloc (.cells zmsA 50)
  have bR : Blk ((W.alloc (.cells x.cells.toArray 48)).alloc (.cells zmsA 50)) (W.heap.size + 1) 50 zmsA := Blk.new' (by simp)
  have hB := Lib.hid (((Below.refl W.heap.size W).alloc (Nat.le_refl _) (.cells x.cells.toArray 48)).alloc (by simp) (.cells zmsA 50))
  have r0 := bA.range
  clear bA
  have hbl := built_ev 2 x
  obtain ⟨m, hm⟩ : ∃ m : Ms, m = { zM 2 with x := x } := ⟨_, rfl⟩
  rw [← hm] at hbl ⊢
  clear hm
  go_enter Try.func11, Try.ntmps11
  go_wp2_with (first | (refine wpList_load_midg (by rfl) 48 _ rfl _ _ rfl (Ev.cells ?_) _ ?_ Try.underlying48 rfl (einfo _) ?_; rotate_left; (focus assumption)) | (refine wpList_build_lit m.cells.toArray rfl 50 _ rfl hbl ?_) | (refine wpList_store_blk rfl 50 _ _ rfl (W.heap.size + 1) 50 _ m.cells.toArray rfl rfl bR (msinfoA _) (zms_siz _) (ms_one _) ?_; intro hrow))
  exact bodyPost_row (t := 50) m.cells.toArray rfl rfl rfl Try.underlying50 rfl (msinfoA _) hrow ⟨rfl, below_setRow hB.out (by omega) _⟩
set_option maxRecDepth 20000 in
set_option maxHeartbeats 4000000 in
theorem part_any (x : Ev) (W : World) : Calls Try.prog 13 #[.agg x.cells.toArray] W fun e W' => e = .returned (.agg ({ zM 3 with x := x } : Ms).cells.toArray) ∧ Below W.heap.size W W' := by
  have bA := (Blk.new W 48 x.cells.toArray).alloc (.cells zmsA 50)
  have bR : Blk ((W.alloc (.cells x.cells.toArray 48)).alloc (.cells zmsA 50)) (W.heap.size + 1) 50 zmsA := Blk.new' (by simp)
  have hB := Lib.hid (((Below.refl W.heap.size W).alloc (Nat.le_refl _) (.cells x.cells.toArray 48)).alloc (by simp) (.cells zmsA 50))
  have r0 := bA.range
  clear bA
  have hbl := built_ev 3 x
  obtain ⟨m, hm⟩ : ∃ m : Ms, m = { zM 3 with x := x } := ⟨_, rfl⟩
  rw [← hm] at hbl ⊢
  clear hm
  go_enter Try.func13, Try.ntmps13
  go_wp2_with (first | (refine wpList_load_midg (by rfl) 48 _ rfl _ _ rfl (Ev.cells ?_) _ ?_ Try.underlying48 rfl (einfo _) ?_; rotate_left; (focus assumption)) | (refine wpList_build_lit m.cells.toArray rfl 50 _ rfl hbl ?_) | (refine wpList_store_blk rfl 50 _ _ rfl (W.heap.size + 1) 50 _ m.cells.toArray rfl rfl bR (msinfoA _) (zms_siz _) (ms_one _) ?_; intro hrow))
  exact bodyPost_row (t := 50) m.cells.toArray rfl rfl rfl Try.underlying50 rfl (msinfoA _) hrow ⟨rfl, below_setRow hB.out (by omega) _⟩
set_option maxRecDepth 20000 in
set_option maxHeartbeats 4000000 in
theorem ask_any (k s : Int) (W : World) : Calls Try.prog 14 #[.int .i64 k, .int .i64 s] W fun e W' => e = .returned (.agg ({ zM k with se := s } : Ms).cells.toArray) ∧ Below W.heap.size W W' := by
  have bR := Blk.new W 50 zmsA
  have hB := Lib.hid ((Below.refl W.heap.size W).alloc (Nat.le_refl _) (.cells zmsA 50))
  have hbl := built_ask k s
  obtain ⟨m, hm⟩ : ∃ m : Ms, m = { zM k with se := s } := ⟨_, rfl⟩
  rw [← hm] at hbl ⊢
  clear hm
  go_enter Try.func14, Try.ntmps14
  go_wp2_with (first | (refine wpList_build_lit m.cells.toArray rfl 50 _ rfl hbl ?_) | (refine wpList_store_blk rfl 50 _ _ rfl W.heap.size 50 _ m.cells.toArray rfl rfl bR (msinfoA _) (zms_siz _) (ms_one _) ?_; intro hrow))
  exact bodyPost_row (t := 50) m.cells.toArray rfl rfl rfl Try.underlying50 rfl (msinfoA _) hrow ⟨rfl, below_setRow hB.out (Nat.le_refl _) _⟩
set_option maxRecDepth 20000 in
set_option maxHeartbeats 4000000 in
theorem end_any (s c : Int) (W : World) : Calls Try.prog 15 #[.int .i64 s, .int .i64 c] W fun e W' => e = .returned (.agg ({ zM 5 with se := s, co := c } : Ms).cells.toArray) ∧ Below W.heap.size W W' := by
  have bR := Blk.new W 50 zmsA
  have hB := Lib.hid ((Below.refl W.heap.size W).alloc (Nat.le_refl _) (.cells zmsA 50))
  have hbl := built_end s c
  obtain ⟨m, hm⟩ : ∃ m : Ms, m = { zM 5 with se := s, co := c } := ⟨_, rfl⟩
  rw [← hm] at hbl ⊢
  clear hm
  go_enter Try.func15, Try.ntmps15
  go_wp2_with (first | (refine wpList_build_lit m.cells.toArray rfl 50 _ rfl hbl ?_) | (refine wpList_store_blk rfl 50 _ _ rfl W.heap.size 50 _ m.cells.toArray rfl rfl bR (msinfoA _) (zms_siz _) (ms_one _) ?_; intro hrow))
  exact bodyPost_row (t := 50) m.cells.toArray rfl rfl rfl Try.underlying50 rfl (msinfoA _) hrow ⟨rfl, below_setRow hB.out (Nat.le_refl _) _⟩
set_option maxRecDepth 20000 in
set_option maxHeartbeats 4000000 in
theorem say_any (c r : Int) (s : St) (W : World) : Calls Try.prog 16 #[.int .i64 c, .int .i64 r, .agg s.cells.toArray] W fun e W' => e = .returned (.agg ({ zM 10 with ca := c, ro := r, s := s } : Ms).cells.toArray) ∧ Below W.heap.size W W' := by
  have bA := (Blk.new W 33 s.cells.toArray).alloc (.cells zmsA 50)
  have bR : Blk ((W.alloc (.cells s.cells.toArray 33)).alloc (.cells zmsA 50)) (W.heap.size + 1) 50 zmsA := Blk.new' (by simp)
  have hB := Lib.hid (((Below.refl W.heap.size W).alloc (Nat.le_refl _) (.cells s.cells.toArray 33)).alloc (by simp) (.cells zmsA 50))
  have r0 := bA.range
  clear bA
  have hbl := built_say c r s
  obtain ⟨m, hm⟩ : ∃ m : Ms, m = { zM 10 with ca := c, ro := r, s := s } := ⟨_, rfl⟩
  rw [← hm] at hbl ⊢
  clear hm
  go_enter Try.func16, Try.ntmps16
  go_wp2_with (first | (refine wpList_load_midg (by rfl) 33 _ rfl _ _ rfl (St.cells ?_) _ ?_ Try.underlying33 rfl (stinfo _) ?_; rotate_left; (focus assumption)) | (refine wpList_build_lit m.cells.toArray rfl 50 _ rfl hbl ?_) | (refine wpList_store_blk rfl 50 _ _ rfl (W.heap.size + 1) 50 _ m.cells.toArray rfl rfl bR (msinfoA _) (zms_siz _) (ms_one _) ?_; intro hrow))
  exact bodyPost_row (t := 50) m.cells.toArray rfl rfl rfl Try.underlying50 rfl (msinfoA _) hrow ⟨rfl, below_setRow hB.out (by omega) _⟩
/-- A message as plain data. -/
def Ms.plain (m : Ms) : List Value := m.hd ++ m.l.cells ++ m.x.item ++ m.s.cells
theorem pm_len (m : Ms) : (Ms.plain m).length = 57 := by unfold Ms.plain; simp only [List.length_append, hd_len, lab_len, item_len, st_len]
theorem pm_def (m : Ms) : Ms.plain m = m.hd ++ m.l.cells ++ m.x.item ++ m.s.cells := by unfold Ms.plain; rfl
theorem pm_0 (m : Ms) (j : Nat) (h : j < 5) : (Ms.plain m)[j]? = m.hd[j]? := by
  unfold Ms.plain
  rw [List.append_assoc, List.append_assoc, List.getElem?_append_left (by rw [hd_len]; exact h)]
theorem pm_l (m : Ms) (j : Nat) (h : j < 17) : (Ms.plain m)[5 + j]? = m.l.cells[j]? := by
  unfold Ms.plain
  rw [List.append_assoc, List.append_assoc, List.getElem?_append_right (by rw [hd_len]; omega), hd_len, Nat.add_sub_cancel_left, List.getElem?_append_left (by rw [lab_len]; exact h)]
theorem pm_x (m : Ms) (j : Nat) (h : j < 21) : (Ms.plain m)[22 + j]? = m.x.item[j]? := by
  unfold Ms.plain
  rw [List.append_assoc, List.getElem?_append_right (by rw [List.length_append, hd_len, lab_len]; omega), List.length_append, hd_len, lab_len, Nat.add_sub_cancel_left, List.getElem?_append_left (by rw [item_len]; exact h)]
theorem pm_s (m : Ms) (j : Nat) : (Ms.plain m)[43 + j]? = m.s.cells[j]? := by
  unfold Ms.plain
  rw [List.getElem?_append_right (by simp only [List.length_append, hd_len, lab_len, item_len]; omega)]
  simp only [List.length_append, hd_len, lab_len, item_len]
  rw [show 43 + j - (5 + 17 + 21) = j from by omega]
attribute [irreducible] Ms.plain
theorem pminfo (m : Ms) : (Try.prog.info? 60).map (·.size) = some (Ms.plain m).length := by rw [pm_len]; kernel_rfl
theorem pm_all {W : World} {b : Nat} {t : TypeId} {m : Ms} (h : Blk W b t (Ms.plain m).toArray) :
    W.rangeAt b 0 (Ms.plain m) ∧ W.rangeAt b 5 m.l.cells ∧ W.rangeAt b 22 m.x.item ∧ W.rangeAt b 43 m.s.cells ∧ W.cell? ⟨b, 0, none⟩ = some (.int .i64 m.k) ∧ W.cell? ⟨b, 1, none⟩ = some (.int .i64 m.se) ∧ W.cell? ⟨b, 2, none⟩ = some (.int .i64 m.co) ∧ W.cell? ⟨b, 3, none⟩ = some (.int .i64 m.ca) ∧ W.cell? ⟨b, 4, none⟩ = some (.int .i64 m.ro) := by
  have hc : ∀ i, W.cell? ⟨b, i, none⟩ = (Ms.plain m)[i]? := fun i => by rw [h.cell, List.getElem?_toArray]
  refine ⟨h.range, fun j v hv => ?_, fun j v hv => ?_, fun j v hv => by rw [hc, pm_s, hv], (hc 0).trans (pm_0 m 0 (by omega)), (hc 1).trans (pm_0 m 1 (by omega)), (hc 2).trans (pm_0 m 2 (by omega)), (hc 3).trans (pm_0 m 3 (by omega)), (hc 4).trans (pm_0 m 4 (by omega))⟩
  · have hj : j < 17 := by have := (List.getElem?_eq_some_iff.1 hv).1; rwa [lab_len] at this
    rw [hc, pm_l m j hj, hv]
  · have hj : j < 21 := by have := (List.getElem?_eq_some_iff.1 hv).1; rwa [item_len] at this
    rw [hc, pm_x m j hj, hv]
set_option maxRecDepth 20000 in
set_option maxHeartbeats 8000000 in
theorem plainmsg_any (m : Ms) (W : World) : Calls Try.prog 19 #[.agg (Ms.plain m).toArray] W fun e W' => e = .returned (.agg m.cells.toArray) ∧ Below W.heap.size W W' := by
  have bA := (Blk.new W 60 (Ms.plain m).toArray).alloc (.cells zmsA 50)
  have bR : Blk ((W.alloc (.cells (Ms.plain m).toArray 60)).alloc (.cells zmsA 50)) (W.heap.size + 1) 50 zmsA := Blk.new' (by simp)
  have hB := ((Below.refl W.heap.size W).alloc (Nat.le_refl _) (.cells (Ms.plain m).toArray 60)).alloc (by simp) (.cells zmsA 50)
  have hbl := built_all m
  go_enter Try.func19, Try.ntmps19
  go_upto_region 1 with fail
  obtain ⟨w1, hw1⟩ : ∃ w1, w1 = (W.alloc (.cells (Ms.plain m).toArray 60)).alloc (.cells zmsA 50) := ⟨_, rfl⟩
  rw [← hw1] at bA bR hB ⊢
  clear hw1
  obtain ⟨_, rl, rx, rs, c0, c1, c2, c3, c4⟩ := pm_all bA
  refine wp_region_tree (S := (fun w' => w'.cell? ⟨W.heap.size, 0, none⟩ = some (.int .i64 m.k) ∧ w'.cell? ⟨W.heap.size, 1, none⟩ = some (.int .i64 m.se) ∧ w'.cell? ⟨W.heap.size, 2, none⟩ = some (.int .i64 m.co) ∧ w'.cell? ⟨W.heap.size, 3, none⟩ = some (.int .i64 m.ca) ∧ w'.cell? ⟨W.heap.size, 4, none⟩ = some (.int .i64 m.ro) ∧ w'.rangeAt W.heap.size 5 m.l.cells ∧ w'.rangeAt W.heap.size 22 m.x.item ∧ w'.rangeAt W.heap.size 43 m.s.cells)) (.take 0 (.take 1 (.take 2 (.take 3 (.take 4 (.take 5 (.take 6 (.take 7 (.take 8 (.take 9 (.take 10 (.take 11 (.take 12 (.take 13 (.take 15 (.take 16 (.one 14 (.take 17 (.one 18 .nil))))))))))))))))))) 9999 (by kernel_rfl) (by kernel_rfl) (by kernel_rfl) (by kernel_rfl) (by kernel_rfl) (fun _ _ d _ _ h => by cases d <;> exact h) ⟨c0, c1, c2, c3, c4, rl, rx, rs⟩ (fun hHeld => ?_); simp only [Tree.map, List.getElem?_toArray, List.getElem?_cons_zero, List.getElem?_cons_succ]
  (repeat (first | (refine wpTree.take (v := undef) (Or.inr ⟨by rfl, rfl⟩) ?_; simp only [Act.put, List.setIfInBounds_toArray, List.set_cons_zero, List.set_cons_succ]) | (refine wpTree.take (v := .agg (Lab.cells ?_).toArray) (yieldsIf_load_mid rfl 27 _ rfl _ _ rfl (Lab.cells _) _ ?_ Try.underlying27 rfl (linfo _)) ?_; rotate_left; (focus (intro _ hS; exact hS.2.2.2.2.2.1)); simp only [Act.put, List.setIfInBounds_toArray, List.set_cons_zero, List.set_cons_succ]) | (refine wpTree.take (v := .agg (Ev.item ?_).toArray) (yieldsIf_load_mid rfl 31 _ rfl _ _ rfl (Ev.item _) _ ?_ Try.underlying31 rfl (iinfo _)) ?_; rotate_left; (focus (intro _ hS; exact hS.2.2.2.2.2.2.1)); simp only [Act.put, List.setIfInBounds_toArray, List.set_cons_zero, List.set_cons_succ]) | (refine wpTree.take (v := .agg (St.cells ?_).toArray) (yieldsIf_load_mid rfl 33 _ rfl _ _ rfl (St.cells _) _ ?_ Try.underlying33 rfl (stinfo _)) ?_; rotate_left; (focus (intro _ hS; exact hS.2.2.2.2.2.2.2)); simp only [Act.put, List.setIfInBounds_toArray, List.set_cons_zero, List.set_cons_succ]) | (refine wpTree.take (v := ?_) (Or.inl ⟨by rfl, ?_⟩) ?_; rotate_left; (focus (intro _ hS; (try dsimp only at hS); go_split_ands; (try subst hS); go_simp; (try (with_reducible rfl)); done)); simp only [Act.put, List.setIfInBounds_toArray, List.set_cons_zero, List.set_cons_succ])))
  refine wpTree.one (fun K hK => ?_)
  go_simp
  go_at_call 12
  refine (itemevent_any m.x _).mono ?_
  rintro e w2 ⟨rfl, hb⟩
  have hb2 : Below w1.heap.size w1 w2 := (Below.refl _ _).drew.trans hb
  obtain ⟨_, rl, rx, rs, c0, c1, c2, c3, c4⟩ := pm_all (bA.next hb2)
  have bR2 := bR.next hb2
  have hB2 := hB.trans (hb2.mono hB.size)
  refine hK.out _ _ ⟨c0, c1, c2, c3, c4, rl, rx, rs⟩ (fun _ => ?_)
  clear hK K hb hb2 hHeld
  (try simp only [Act.put, List.setIfInBounds_toArray, List.set_cons_zero, List.set_cons_succ])
  refine wpTree.take (yields_build' m.cells.toArray (by rfl) 50 [(0, _), (1, _), (2, _), (3, _), (4, _), (5, _), (6, _), (7, _)] rfl hbl) ?_
  simp only [Act.put, List.setIfInBounds_toArray, List.set_cons_zero, List.set_cons_succ]
  refine wpTree.one (fun K hK => ?_)
  refine step_store_blk (by rfl) 50 _ _ rfl (W.heap.size + 1) 50 zmsA m.cells.toArray rfl rfl bR2 (msinfoA _) (zms_siz _) (ms_one _) ?_
  have hS3 := below_setRow (Below.refl (W.heap.size + 1) w2) (Nat.le_refl _) m.cells.toArray
  have hc := fun i => hS3.cell (p := ⟨W.heap.size, i, none⟩) (Nat.lt_succ_self _)
  refine hK.out _ _ ⟨(hc 0).trans c0, (hc 1).trans c1, (hc 2).trans c2, (hc 3).trans c3, (hc 4).trans c4, fun j v hj => (hc (5 + j)).trans (rl j v hj), fun j v hj => (hc (22 + j)).trans (rx j v hj), fun j v hj => (hc (43 + j)).trans (rs j v hj)⟩ (fun _ => ?_)
  clear hK K
  refine wpTree.done ?_
  have hrow := bR2.setRow m.cells.toArray
  have hb3 := below_setRow hB2 (show W.heap.size ≤ W.heap.size + 1 by omega) m.cells.toArray
  clear hS3 hc c0 c1 c2 c3 c4 rl rx rs bA bR hB bR2 hB2
  go_wp2_with fail
  exact bodyPost_row (t := 50) m.cells.toArray rfl rfl rfl Try.underlying50 rfl (msinfoA _) hrow ⟨rfl, hb3⟩
section
variable {H : Type} {enc : TypeId × Value → H} {w : World}
theorem cells_st : Try.prog.cellsOf 33 = 14 := by kernel_rfl
theorem cells_pm : Try.prog.cellsOf 60 = 57 := by kernel_rfl
theorem cells_boolM : Try.prog.cellsOf 4 = 1 := by kernel_rfl
set_option maxRecDepth 100000 in
theorem open_stM {base fuel : Nat} {sp : Nat → Bool} {hd : Bool} {cs : List Value} {x : DataW H × List MemPlace} (h : DataW.trod enc Try.prog w base sp hd fuel 33 cs = some x) : ∃ s : St, cs = s.cells ∧ St.Ok s := by
  obtain ⟨xs, m, _, hx, hcl, hlen, hg⟩ := DataW.trod_struct Try.underlying33 h
  rw [cells_st] at hcl
  have g0 : DataW.trod enc Try.prog w base sp hd m 4 ((cs.drop 0).take (Try.prog.cellsOf 4)) = xs[0]? := hg 0 _ rfl
  have g1 : DataW.trod enc Try.prog w base sp hd m 22 ((cs.drop 1).take (Try.prog.cellsOf 22)) = xs[1]? := hg 1 _ rfl
  have g2 : DataW.trod enc Try.prog w base sp hd m 25 ((cs.drop 2).take (Try.prog.cellsOf 25)) = xs[2]? := hg 2 _ rfl
  have hlen3 : xs.length = 3 := hlen
  clear hg hlen
  rw [cells_boolM] at g0
  rw [cells_u64] at g1
  rw [cells_vec] at g2
  rw [List.getElem?_eq_getElem (by omega)] at g0 g1 g2
  obtain ⟨k, e0, _⟩ := DataW.trod_bool Try.underlying4 g0
  obtain ⟨t, e1, _, w1⟩ := DataW.trod_int Try.underlying22 g1
  obtain ⟨f, e2, hf⟩ := vec_trod g2
  obtain ⟨t', rfl, b1⟩ := bound_u64 w1
  refine ⟨⟨k, t', f⟩, ?_, ⟨b1, hf⟩⟩
  rw [st_def]
  have s0 : cs = cs.take 2 ++ cs.drop 2 := (List.take_append_drop 2 cs).symm
  rw [List.take_of_length_le (by rw [List.length_drop]; omega)] at e2
  rw [s0, e2]
  congr 1
  match cs, hcl, e0, e1 with
  | a :: b :: r, _, e0, e1 =>
    simp only [List.drop_zero, List.take_succ_cons, List.take_zero, List.drop_succ_cons] at e0 e1 ⊢
    rw [(List.cons.inj e0).1, (List.cons.inj e1).1]
structure Ms.Bd (m : Ms) : Prop where
  k : -9223372036854775808 ≤ m.k ∧ m.k ≤ 9223372036854775807
  se : -9223372036854775808 ≤ m.se ∧ m.se ≤ 9223372036854775807
  co : -9223372036854775808 ≤ m.co ∧ m.co ≤ 9223372036854775807
  ca : -9223372036854775808 ≤ m.ca ∧ m.ca ≤ 9223372036854775807
  ro : -9223372036854775808 ≤ m.ro ∧ m.ro ≤ 9223372036854775807
  l : m.l.Ok
  x : m.x.Ok
  s : St.Ok m.s
set_option maxRecDepth 100000 in
theorem open_pm_cells {base fuel : Nat} {sp : Nat → Bool} {hd : Bool} {cs : List Value} {x : DataW H × List MemPlace} (h : DataW.trod enc Try.prog w base sp hd fuel 60 cs = some x) : ∃ m : Ms, cs = Ms.plain m ∧ Ms.Bd m := by
  obtain ⟨xs, m, _, hx, hcl, hlen, hg⟩ := DataW.trod_struct Try.underlying60 h
  rw [cells_pm] at hcl
  have g0 : DataW.trod enc Try.prog w base sp hd m 3 ((cs.drop 0).take (Try.prog.cellsOf 3)) = xs[0]? := hg 0 _ rfl
  have g1 : DataW.trod enc Try.prog w base sp hd m 3 ((cs.drop 1).take (Try.prog.cellsOf 3)) = xs[1]? := hg 1 _ rfl
  have g2 : DataW.trod enc Try.prog w base sp hd m 3 ((cs.drop 2).take (Try.prog.cellsOf 3)) = xs[2]? := hg 2 _ rfl
  have g3 : DataW.trod enc Try.prog w base sp hd m 3 ((cs.drop 3).take (Try.prog.cellsOf 3)) = xs[3]? := hg 3 _ rfl
  have g4 : DataW.trod enc Try.prog w base sp hd m 3 ((cs.drop 4).take (Try.prog.cellsOf 3)) = xs[4]? := hg 4 _ rfl
  have g5 : DataW.trod enc Try.prog w base sp hd m 27 ((cs.drop 5).take (Try.prog.cellsOf 27)) = xs[5]? := hg 5 _ rfl
  have g6 : DataW.trod enc Try.prog w base sp hd m 31 ((cs.drop 22).take (Try.prog.cellsOf 31)) = xs[6]? := hg 6 _ rfl
  have g7 : DataW.trod enc Try.prog w base sp hd m 33 ((cs.drop 43).take (Try.prog.cellsOf 33)) = xs[7]? := hg 7 _ rfl
  have hlen8 : xs.length = 8 := hlen
  clear hg hlen
  rw [cells_int] at g0 g1 g2 g3 g4
  rw [cells_lab] at g5
  rw [cells_item] at g6
  rw [cells_st] at g7
  rw [List.getElem?_eq_getElem (by omega)] at g0 g1 g2 g3 g4 g5 g6 g7
  obtain ⟨k, e0, _, w0⟩ := DataW.trod_int Try.underlying3 g0
  obtain ⟨se, e1, _, w1⟩ := DataW.trod_int Try.underlying3 g1
  obtain ⟨co, e2, _, w2⟩ := DataW.trod_int Try.underlying3 g2
  obtain ⟨ca, e3, _, w3⟩ := DataW.trod_int Try.underlying3 g3
  obtain ⟨ro, e4, _, w4⟩ := DataW.trod_int Try.underlying3 g4
  obtain ⟨l, e5, hl⟩ := open_lab_cells g5
  obtain ⟨x, e6, hx6⟩ := open_item_cells g6
  obtain ⟨s, e7, hs⟩ := open_stM g7
  refine ⟨⟨k, se, co, ca, ro, l, x, s⟩, ?_, ⟨bounds_i64 w0, bounds_i64 w1, bounds_i64 w2, bounds_i64 w3, bounds_i64 w4, hl, hx6, hs⟩⟩
  rw [pm_def]
  rw [List.take_of_length_le (by rw [List.length_drop]; omega)] at e7
  have s0 : cs = cs.take 5 ++ cs.drop 5 := (List.take_append_drop 5 cs).symm
  have s1 : cs.drop 5 = (cs.drop 5).take 17 ++ cs.drop 22 := by have := (List.take_append_drop 17 (cs.drop 5)).symm; rwa [List.drop_drop] at this
  have s2 : cs.drop 22 = (cs.drop 22).take 21 ++ cs.drop 43 := by have := (List.take_append_drop 21 (cs.drop 22)).symm; rwa [List.drop_drop] at this
  have s3 : cs.take 5 = [.int .i64 k, .int .i64 se, .int .i64 co, .int .i64 ca, .int .i64 ro] := by
    match cs, hcl, e0, e1, e2, e3, e4 with
    | a :: b :: c :: d :: e :: r, _, e0, e1, e2, e3, e4 =>
      simp only [List.drop_zero, List.take_succ_cons, List.take_zero, List.drop_succ_cons] at e0 e1 e2 e3 e4 ⊢
      rw [(List.cons.inj e0).1, (List.cons.inj e1).1, (List.cons.inj e2).1, (List.cons.inj e3).1, (List.cons.inj e4).1]
  rw [s0, s1, s2, s3, e5, e6, e7]
  simp only [Ms.hd, List.append_assoc]
set_option maxRecDepth 100000 in
theorem open_pm {r : Reach} {b0 base : Nat} {sp : Nat → Bool} {hd : Bool} {v : Value} {d : DataW H} {p : List MemPlace} (hv : Value.okWide Try.prog w r b0 60 v) (h : DataW.Trod enc Try.prog w base sp hd 60 v d p) :
    ∃ m : Ms, v = .agg (Ms.plain m).toArray ∧ Ms.Bd m := by
  obtain ⟨cs, rfl, _⟩ := okWide_struct Try.underlying60 hv
  obtain ⟨fuel, hf⟩ := h
  obtain ⟨l, e, hok⟩ := open_pm_cells hf
  exact ⟨l, by rw [← e]; rfl, hok⟩
end
end Mg
end Go.Proofs.Ytkigaclcmodjaaa

/-
Plain data as the document's inputs.
-/
import Derived.Test.YtgnfachjobohoaaGreatInR2b
import Derived.Test.YtgnfachjobohoaaGreatIn7
namespace Go.Proofs.YtgnfachjobohoaaGreat
open Go.RowKit
set_option linter.unusedSimpArgs false
set_option linter.unusedVariables false
namespace In
section
variable (m : Iv) (rest : List (Nat × Value))
theorem riv_arr : m.rc.toArray = (.int .i64 m.k :: .int .i64 m.ca :: .int .i64 m.se :: .int .i64 m.no :: (vl m.f ++ ([.int .u64 (m.t : Nat)] ++ (m.o.plain ++ (rpc m.x.p))))).toArray := by
  rw [riv_def]; unfold Iv.hd; simp [List.append_assoc]
theorem rfill_k (v : Int) : Instr.fill pI m.rc.toArray ((0, .int .i64 v) :: rest) = Instr.fill pI ({ m with k := v } : Iv).rc.toArray rest := by
  rw [riv_arr, riv_arr]; exact fill_scI (pre := []) p0I rfl rfl
theorem rfill_ca (v : Int) : Instr.fill pI m.rc.toArray ((1, .int .i64 v) :: rest) = Instr.fill pI ({ m with ca := v } : Iv).rc.toArray rest := by
  rw [riv_arr, riv_arr]; exact fill_scI (pre := [_]) p1I rfl rfl
theorem rfill_se (v : Int) : Instr.fill pI m.rc.toArray ((2, .int .i64 v) :: rest) = Instr.fill pI ({ m with se := v } : Iv).rc.toArray rest := by
  rw [riv_arr, riv_arr]; exact fill_scI (pre := [_, _]) p2I rfl rfl
theorem rfill_no (v : Int) : Instr.fill pI m.rc.toArray ((3, .int .i64 v) :: rest) = Instr.fill pI ({ m with no := v } : Iv).rc.toArray rest := by
  rw [riv_arr, riv_arr]; exact fill_scI (pre := [_, _, _]) p3I rfl rfl
theorem rfill_f (f : Nat → Nat) : Instr.fill pI m.rc.toArray ((4, .agg (vl f).toArray) :: rest) = Instr.fill pI ({ m with f := f } : Iv).rc.toArray rest := by
  have := fill_one (place := pI) (i := 4) (off := 4) (cs := vl f) (pre := m.hd) (mid := vl m.f) (post := [.int .u64 (m.t : Nat)] ++ (m.o.plain ++ (rpc m.x.p))) (rest := rest) (by rw [p4I, vl_len]) (hd_len m) (by rw [vl_len, vl_len])
  rw [riv_def, riv_def]
  exact this
theorem rfill_t (n : Nat) : Instr.fill pI m.rc.toArray ((5, .int .u64 (n : Nat)) :: rest) = Instr.fill pI ({ m with t := n } : Iv).rc.toArray rest := by
  have := fill_scI (place := pI) (i := 5) (off := 16) (v := .int .u64 (n : Nat)) (m := .int .u64 (m.t : Nat)) (pre := m.hd ++ vl m.f) (post := m.o.plain ++ (rpc m.x.p)) (rest := rest) p5I rfl (by rw [List.length_append, hd_len, vl_len])
  rw [riv_def, riv_def]
  simp only [List.append_assoc] at this
  exact this
theorem rfill_o (o : OpR) : Instr.fill pI m.rc.toArray ((6, .agg o.plain.toArray) :: rest) = Instr.fill pI ({ m with o := o } : Iv).rc.toArray rest := by
  have := fill_one (place := pI) (i := 6) (off := 17) (cs := o.plain) (pre := m.hd ++ (vl m.f ++ [.int .u64 (m.t : Nat)])) (mid := m.o.plain) (post := (rpc m.x.p)) (rest := rest) (by rw [p6I, plain_len]) (by simp only [List.length_append, hd_len, vl_len]; rfl) (by rw [plain_len, plain_len])
  rw [riv_def, riv_def]
  simp only [List.append_assoc] at this
  exact this
theorem rfill_x (x : Pk.Pt) : Instr.fill pI m.rc.toArray ((7, .agg (rpc x).toArray) :: rest) = Instr.fill pI ({ m with x := ⟨x, m.x.A, m.x.c⟩ } : Iv).rc.toArray rest := by
  have := fill_one (place := pI) (i := 7) (off := 21) (cs := rpc x) (pre := m.hd ++ (vl m.f ++ ([.int .u64 (m.t : Nat)] ++ m.o.plain))) (mid := (rpc m.x.p)) (post := []) (rest := rest) (by rw [p7I, rpc_len]) (by simp only [List.length_append, hd_len, vl_len, plain_len]; rfl) (by rw [rpc_len, rpc_len])
  rw [riv_def, riv_def]
  simp only [List.append_assoc, List.append_nil] at this
  exact this
end
theorem built_fillR (parts : List (Nat × Value)) : Tryz.prog.built 39 parts = Instr.fill pI (zI 0).rc.toArray parts := by
  rw [zIr_list]; unfold pI; kernel_rfl
theorem rc_ext {a b : Iv} (h1 : a.k = b.k) (h2 : a.ca = b.ca) (h3 : a.se = b.se) (h4 : a.no = b.no) (h5 : a.f = b.f) (h6 : a.t = b.t) (h7 : a.o = b.o) (h8 : a.x.p = b.x.p) : a.rc = b.rc := by
  rw [riv_def a, riv_def b]; unfold Iv.hd; rw [h1, h2, h3, h4, h5, h6, h7, h8]
theorem built_allR (m : Iv) : Tryz.prog.built 39 [(0, .int .i64 m.k), (1, .int .i64 m.ca), (2, .int .i64 m.se), (3, .int .i64 m.no), (4, .agg (vl m.f).toArray), (5, .int .u64 (m.t : Nat)), (6, .agg m.o.plain.toArray), (7, .agg (rpc m.x.p).toArray)] = some m.rc.toArray := by
  rw [built_fillR, rfill_k, rfill_ca, rfill_se, rfill_no, rfill_f, rfill_t, rfill_o, rfill_x, Instr.fill]
  exact congrArg some (congrArg List.toArray (rc_ext rfl rfl rfl rfl rfl rfl rfl rfl))
theorem built_rop (o : OpR) : Tryz.prog.built 35 [(0, .int .i64 o.k), (1, .int .i64 o.s), (2, .int .i64 o.q), (3, .int .u64 (o.p : Nat))] = some o.plain.toArray := by rw [rplain_arr]; kernel_rfl
theorem pl_op {W : World} {b : Nat} {t : TypeId} {m : Iv} (h : Blk W b t (Iv.plain m).toArray) : W.cell? ⟨b, 17, none⟩ = some (.int .i64 m.o.k) ∧ W.cell? ⟨b, 18, none⟩ = some (.int .i64 m.o.s) ∧ W.cell? ⟨b, 19, none⟩ = some (.int .i64 m.o.q) ∧ W.cell? ⟨b, 20, none⟩ = some (.int .u64 (m.o.p : Nat)) := by
  have hc : ∀ i, W.cell? ⟨b, i, none⟩ = (Iv.plain m)[i]? := fun i => by rw [h.cell, List.getElem?_toArray]
  refine ⟨((hc 17).trans (pl_o m 0 (by omega))).trans ?_, ((hc 18).trans (pl_o m 1 (by omega))).trans ?_, ((hc 19).trans (pl_o m 2 (by omega))).trans ?_, ((hc 20).trans (pl_o m 3 (by omega))).trans ?_⟩ <;> (unfold OpR.plain; rfl)
set_option maxRecDepth 20000 in
set_option maxHeartbeats 8000000 in
theorem as26_any (m : Iv) (W : World) (hx : m.x.Ok W) : Calls Tryz.prog 6 #[.agg (Iv.plain m).toArray] W fun e W' => e = .returned (.agg m.rc.toArray) ∧ Below W.heap.size W W' := by
  have bA := (Blk.new W 32 (Iv.plain m).toArray).alloc (.cells zrinA 39)
  have bR : Blk ((W.alloc (.cells (Iv.plain m).toArray 32)).alloc (.cells zrinA 39)) (W.heap.size + 1) 39 zrinA := Blk.new' (by simp)
  have hB := ((Below.refl W.heap.size W).alloc (Nat.le_refl _) (.cells (Iv.plain m).toArray 32)).alloc (by simp) (.cells zrinA 39)
  obtain ⟨w1, hw1⟩ : ∃ w1, w1 = (W.alloc (.cells (Iv.plain m).toArray 32)).alloc (.cells zrinA 39) := ⟨_, rfl⟩
  rw [← hw1] at bA bR hB
  have HW1 := Lib.hid hw1
  have HA := Lib.hid bA
  have HR := Lib.hid bR
  have HB := Lib.hid hB
  have HX := Lib.hid hx
  have HBL := Lib.hid (built_allR m)
  have HBO := Lib.hid (built_rop m.o)
  clear bA bR hB hw1 hx
  go_enter Tryz.func6, Tryz.ntmps6
  go_upto_region 1 with fail
  rw [← HW1.out]
  clear HW1
  refine wp_region_tree (S := (fun w' => Below (W.heap.size + 1) w1 w')) (.take 0 (.take 1 (.take 2 (.take 3 (.take 4 (.take 5 (.take 6 (.take 7 (.take 8 (.take 9 (.take 10 (.take 11 (.take 12 (.take 13 (.take 14 (.take 15 (.take 16 (.take 17 (.take 18 (.take 19 (.take 20 (.take 21 (.take 22 (.take 23 (.take 24 (.take 25 (.take 26 (.one 27 (.take 28 (.one 29 .nil)))))))))))))))))))))))))))))) 9999 (by kernel_rfl) (by kernel_rfl) (by kernel_rfl) (by kernel_rfl) (by kernel_rfl) (fun _ _ d _ _ h => by cases d <;> exact h) ((Below.refl _ _).drew) (fun hHeld => ?_); simp only [Tree.map, List.getElem?_toArray, List.getElem?_cons_zero, List.getElem?_cons_succ]
  (repeat (first | (refine wpTree.take (v := undef) (Or.inr ⟨by rfl, rfl⟩) ?_; simp only [Act.put, List.setIfInBounds_toArray, List.set_cons_zero, List.set_cons_succ]) | (refine wpTree.take (v := .agg (vl m.f).toArray) (yieldsIf_load_mid rfl 24 _ rfl _ _ rfl (vl m.f) _ ?_ Tryz.underlying24 rfl (vinfoL _)) ?_; (focus (intro wq hS; exact (pl_all (blk_below HA.out hS (Nat.lt_succ_self _))).2.1)); simp only [Act.put, List.setIfInBounds_toArray, List.set_cons_zero, List.set_cons_succ]) | (refine wpTree.take (v := .agg m.x.cells.toArray) (yieldsIf_load_mid rfl 30 _ rfl _ _ rfl m.x.cells _ ?_ Tryz.underlying30 rfl (Pk.pcinfo _)) ?_; (focus (intro wq hS; exact (pl_all (blk_below HA.out hS (Nat.lt_succ_self _))).2.2.2.1)); simp only [Act.put, List.setIfInBounds_toArray, List.set_cons_zero, List.set_cons_succ]) | (refine wpTree.take (yields_build' m.o.plain.toArray rfl 35 _ rfl HBO.out) ?_; simp only [Act.put, List.setIfInBounds_toArray, List.set_cons_zero, List.set_cons_succ]) | (refine wpTree.take (v := ?_) (Or.inl ⟨by rfl, ?_⟩) ?_; rotate_left; (focus (intro wq hS; obtain ⟨-, -, -, -, c0, c1, c2, c3, ct⟩ := pl_all (blk_below HA.out hS (Nat.lt_succ_self _)); obtain ⟨o0, o1, o2, o3⟩ := pl_op (blk_below HA.out hS (Nat.lt_succ_self _)); go_simp; (try (with_reducible rfl)); done)); simp only [Act.put, List.setIfInBounds_toArray, List.set_cons_zero, List.set_cons_succ])))
  refine wpTree.one (fun K hK => ?_)
  go_simp
  go_at_call 17
  have hxd : m.x.Ok w1.drew := HX.out.next HB.out.drew
  refine (as15_any m.x _ hxd).mono ?_
  rintro e w2 ⟨rfl, hb⟩
  have k2 : Below w1.heap.size w1 w2 := (Below.refl _ _).drew.trans hb
  have k2' : Below (W.heap.size + 1) w1 w2 := k2.mono (by have := HR.out.lt; omega)
  refine hK.out _ _ k2' (fun _ => ?_)
  clear hK K hb hHeld hxd
  (try simp only [Act.put, List.setIfInBounds_toArray, List.set_cons_zero, List.set_cons_succ])
  refine wpTree.take (yields_build' m.rc.toArray rfl 39 _ rfl HBL.out) ?_
  (try simp only [Act.put, List.setIfInBounds_toArray, List.set_cons_zero, List.set_cons_succ])
  have HR2 := Lib.hid (HR.out.next k2)
  have HB2 := Lib.hid (HB.out.trans (k2.mono HB.out.size))
  refine wpTree.one (fun K hK => ?_)
  refine step_store_blk (by rfl) 39 _ _ rfl (W.heap.size + 1) 39 zrinA m.rc.toArray rfl rfl HR2.out (rivinfoA m) (zrin_siz m) (riv_one m) ?_
  have hb3 := below_setRow HB2.out (show W.heap.size ≤ W.heap.size + 1 by omega) m.rc.toArray
  have hS3 := below_setRow (Below.refl (W.heap.size + 1) w2) (Nat.le_refl _) m.rc.toArray
  have hrow := HR2.out.setRow m.rc.toArray
  refine hK.out _ _ (k2'.trans hS3) (fun _ => ?_)
  clear hK K
  refine wpTree.done ?_
  clear hS3 k2 k2' HR HA HB
  go_wp2_with fail
  exact bodyPost_row (t := 39) m.rc.toArray rfl rfl rfl Tryz.underlying39 rfl (rivinfoA _) hrow ⟨rfl, hb3⟩
end In
end Go.Proofs.YtgnfachjobohoaaGreat

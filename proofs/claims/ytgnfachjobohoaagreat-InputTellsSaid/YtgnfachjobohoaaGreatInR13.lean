/-
The program's inputs as plain data.
What is written: bytes, or an error.
-/
import Derived.Test.YtgnfachjobohoaaGreatIn7
import Derived.Test.YtgnfachjobohoaaGreatTots
import Derived.Test.YtgnfachjobohoaaGreatIn10
namespace Go.Proofs.YtgnfachjobohoaaGreat
open Go.RowKit
set_option linter.unusedSimpArgs false
set_option linter.unusedVariables false
namespace In
section
variable (m : Iv) (rest : List (Nat × Value))
theorem piv_arr : (Iv.plain m).toArray = (.int .i64 m.k :: .int .i64 m.ca :: .int .i64 m.se :: .int .i64 m.no :: (vl m.f ++ ([.int .u64 (m.t : Nat)] ++ (m.o.plain ++ m.x.cells)))).toArray := by
  rw [pl_def]; unfold Iv.hd; simp [List.append_assoc]
theorem pfill_k (v : Int) : Instr.fill pI (Iv.plain m).toArray ((0, .int .i64 v) :: rest) = Instr.fill pI (Iv.plain { m with k := v }).toArray rest := by
  rw [piv_arr, piv_arr]; exact fill_scI (pre := []) p0I rfl rfl
theorem pfill_ca (v : Int) : Instr.fill pI (Iv.plain m).toArray ((1, .int .i64 v) :: rest) = Instr.fill pI (Iv.plain { m with ca := v }).toArray rest := by
  rw [piv_arr, piv_arr]; exact fill_scI (pre := [_]) p1I rfl rfl
theorem pfill_se (v : Int) : Instr.fill pI (Iv.plain m).toArray ((2, .int .i64 v) :: rest) = Instr.fill pI (Iv.plain { m with se := v }).toArray rest := by
  rw [piv_arr, piv_arr]; exact fill_scI (pre := [_, _]) p2I rfl rfl
theorem pfill_no (v : Int) : Instr.fill pI (Iv.plain m).toArray ((3, .int .i64 v) :: rest) = Instr.fill pI (Iv.plain { m with no := v }).toArray rest := by
  rw [piv_arr, piv_arr]; exact fill_scI (pre := [_, _, _]) p3I rfl rfl
theorem pfill_f (f : Nat → Nat) : Instr.fill pI (Iv.plain m).toArray ((4, .agg (vl f).toArray) :: rest) = Instr.fill pI (Iv.plain { m with f := f }).toArray rest := by
  have := fill_one (place := pI) (i := 4) (off := 4) (cs := vl f) (pre := m.hd) (mid := vl m.f) (post := [.int .u64 (m.t : Nat)] ++ (m.o.plain ++ m.x.cells)) (rest := rest) (by rw [p4I, vl_len]) (hd_len m) (by rw [vl_len, vl_len])
  rw [pl_def, pl_def]
  exact this
theorem pfill_t (n : Nat) : Instr.fill pI (Iv.plain m).toArray ((5, .int .u64 (n : Nat)) :: rest) = Instr.fill pI (Iv.plain { m with t := n }).toArray rest := by
  have := fill_scI (place := pI) (i := 5) (off := 16) (v := .int .u64 (n : Nat)) (m := .int .u64 (m.t : Nat)) (pre := m.hd ++ vl m.f) (post := m.o.plain ++ m.x.cells) (rest := rest) p5I rfl (by rw [List.length_append, hd_len, vl_len])
  rw [pl_def, pl_def]
  simp only [List.append_assoc] at this
  exact this
theorem pfill_o (o : OpR) : Instr.fill pI (Iv.plain m).toArray ((6, .agg o.plain.toArray) :: rest) = Instr.fill pI (Iv.plain { m with o := o }).toArray rest := by
  have := fill_one (place := pI) (i := 6) (off := 17) (cs := o.plain) (pre := m.hd ++ (vl m.f ++ [.int .u64 (m.t : Nat)])) (mid := m.o.plain) (post := m.x.cells) (rest := rest) (by rw [p6I, plain_len]) (by simp only [List.length_append, hd_len, vl_len]; rfl) (by rw [plain_len, plain_len])
  rw [pl_def, pl_def]
  simp only [List.append_assoc] at this
  exact this
theorem pfill_x (x : Pk.Pc) : Instr.fill pI (Iv.plain m).toArray ((7, .agg x.cells.toArray) :: rest) = Instr.fill pI (Iv.plain { m with x := x }).toArray rest := by
  have := fill_one (place := pI) (i := 7) (off := 21) (cs := x.cells) (pre := m.hd ++ (vl m.f ++ ([.int .u64 (m.t : Nat)] ++ m.o.plain))) (mid := m.x.cells) (post := []) (rest := rest) (by rw [p7I, Pk.pc_len]) (by simp only [List.length_append, hd_len, vl_len, plain_len]; rfl) (by rw [Pk.pc_len, Pk.pc_len])
  rw [pl_def, pl_def]
  simp only [List.append_assoc, List.append_nil] at this
  exact this
end
theorem pl_ones (m : Iv) : ∀ v ∈ Iv.plain m, v.oneCell' = true := by
  intro v hv
  rw [pl_def] at hv
  unfold Iv.hd at hv
  simp only [List.mem_append, List.mem_cons, List.not_mem_nil, or_false] at hv
  rcases hv with (rfl | rfl | rfl | rfl) | hv | rfl | hv | hv
  · rfl
  · rfl
  · rfl
  · rfl
  · exact vl_one _ v hv
  · rfl
  · exact Array.all_eq_true'.1 (plain_one m.o) v (by simpa using hv)
  · exact pc_ones _ v hv
theorem pl_one (m : Iv) : (Iv.plain m).toArray.all (·.oneCell') = true := all_oneCell_toArray (pl_ones m)
theorem plinfoA (m : Iv) : (Tryz.prog.info? 32).map (·.size) = some (Iv.plain m).toArray.size := by rw [List.size_toArray]; exact plinfo m
theorem zpl_list : Iv.plain (zI 0) = [.int .i64 0, .int .i64 0, .int .i64 0, .int .i64 0, .int .u32 0, .int .u32 0, .int .u32 0, .int .u32 0, .int .u32 0, .int .u32 0, .int .u32 0, .int .u32 0, .int .u32 0, .int .u32 0, .int .u32 0, .int .u32 0, .int .u64 0, .int .i64 0, .int .i64 0, .int .i64 0, .int .u64 0, .bool false, .int .i64 0, .int .i64 0, .int .u64 0, .slice none 0 0] := by
  rw [pl_def]
  show ([.int .i64 0, .int .i64 0, .int .i64 0, .int .i64 0] : List Value) ++ (vl (fun _ => 0) ++ ([.int .u64 0] ++ (zo.plain ++ zx.cells))) = _
  rw [show vl (fun _ => 0) = [.int .u32 0, .int .u32 0, .int .u32 0, .int .u32 0, .int .u32 0, .int .u32 0, .int .u32 0, .int .u32 0, .int .u32 0, .int .u32 0, .int .u32 0, .int .u32 0] from congrArg Array.toList vl_zero, zx_cells, show zo.plain = [.int .i64 0, .int .i64 0, .int .i64 0, .int .u64 0] from by unfold OpR.plain; rfl]
  rfl
abbrev zplA : Array Value := #[.int .i64 0, .int .i64 0, .int .i64 0, .int .i64 0, .int .u32 0, .int .u32 0, .int .u32 0, .int .u32 0, .int .u32 0, .int .u32 0, .int .u32 0, .int .u32 0, .int .u32 0, .int .u32 0, .int .u32 0, .int .u32 0, .int .u64 0, .int .i64 0, .int .i64 0, .int .i64 0, .int .u64 0, .bool false, .int .i64 0, .int .i64 0, .int .u64 0, .slice none 0 0]
theorem zpl_siz (m : Iv) : (zplA : Array Value).size = (Iv.plain m).toArray.size := by
  show 26 = (Iv.plain m).toArray.size
  rw [List.size_toArray, pl_len]
theorem built_fillP (parts : List (Nat × Value)) : Tryz.prog.built 32 parts = Instr.fill pI (Iv.plain (zI 0)).toArray parts := by
  rw [zpl_list]; unfold pI; kernel_rfl
theorem built_allP (m : Iv) : Tryz.prog.built 32 [(0, .int .i64 m.k), (1, .int .i64 m.ca), (2, .int .i64 m.se), (3, .int .i64 m.no), (4, .agg (vl m.f).toArray), (5, .int .u64 (m.t : Nat)), (6, .agg m.o.plain.toArray), (7, .agg m.x.cells.toArray)] = some (Iv.plain m).toArray := by
  rw [built_fillP, pfill_k, pfill_ca, pfill_se, pfill_no, pfill_f, pfill_t, pfill_o, pfill_x, Instr.fill]
theorem built_plop (o : OpR) : Tryz.prog.built 27 [(0, .int .i64 o.k), (1, .int .i64 o.s), (2, .int .i64 o.q), (3, .int .u64 (o.p : Nat))] = some o.plain.toArray := by
  rw [show o.plain.toArray = #[.int .i64 o.k, .int .i64 o.s, .int .i64 o.q, .int .u64 (o.p : Nat)] from by unfold OpR.plain; rfl]; kernel_rfl
theorem iv_op {W : World} {b : Nat} {t : TypeId} {m : Iv} (h : Blk W b t m.cells.toArray) : W.cell? ⟨b, 17, none⟩ = some (.int .i64 m.o.k) ∧ W.cell? ⟨b, 18, none⟩ = some (.int .i64 m.o.s) ∧ W.cell? ⟨b, 19, none⟩ = some (.int .i64 m.o.q) ∧ W.cell? ⟨b, 20, none⟩ = some (.float .f64 m.o.p) := by
  have hc : ∀ i, W.cell? ⟨b, i, none⟩ = m.cells[i]? := fun i => by rw [h.cell, List.getElem?_toArray]
  refine ⟨((hc 17).trans (iv_o m 0 (by omega))).trans ?_, ((hc 18).trans (iv_o m 1 (by omega))).trans ?_, ((hc 19).trans (iv_o m 2 (by omega))).trans ?_, ((hc 20).trans (iv_o m 3 (by omega))).trans ?_⟩ <;> (rw [op_cells]; rfl)
set_option maxRecDepth 20000 in
set_option maxHeartbeats 8000000 in
theorem of26_any (m : Iv) (W : World) : Calls Tryz.prog 14 #[.agg m.cells.toArray] W fun e W' => e = .returned (.agg (Iv.plain m).toArray) ∧ Below W.heap.size W W' := by
  have bA := (Blk.new W 48 m.cells.toArray).alloc (.cells zplA 32)
  have bR : Blk ((W.alloc (.cells m.cells.toArray 48)).alloc (.cells zplA 32)) (W.heap.size + 1) 32 zplA := Blk.new' (by simp)
  have hB := ((Below.refl W.heap.size W).alloc (Nat.le_refl _) (.cells m.cells.toArray 48)).alloc (by simp) (.cells zplA 32)
  obtain ⟨w1, hw1⟩ : ∃ w1, w1 = (W.alloc (.cells m.cells.toArray 48)).alloc (.cells zplA 32) := ⟨_, rfl⟩
  rw [← hw1] at bA bR hB
  have HW1 := Lib.hid hw1
  have HA := Lib.hid bA
  have HR := Lib.hid bR
  have HB := Lib.hid hB
  have HBL := Lib.hid (built_allP m)
  have HBO := Lib.hid (built_plop m.o)
  have cb := Tot.call_bits
  clear bA bR hB hw1
  go_enter Tryz.func14, Tryz.ntmps14
  go_upto_region 1 with fail
  rw [← HW1.out]
  clear HW1
  refine wp_region_tree (S := (fun w' => Below (W.heap.size + 1) w1 w')) (.take 0 (.take 1 (.take 2 (.take 3 (.take 4 (.take 5 (.take 6 (.take 7 (.take 8 (.take 9 (.take 10 (.take 11 (.take 12 (.take 13 (.take 14 (.take 15 (.take 16 (.take 17 (.take 18 (.take 19 (.take 20 (.take 21 (.take 22 (.take 23 (.take 26 (.take 27 (.one 24 (.take 25 (.take 28 (.one 29 .nil)))))))))))))))))))))))))))))) 9999 (by kernel_rfl) (by kernel_rfl) (by kernel_rfl) (by kernel_rfl) (by kernel_rfl) (fun _ _ d _ _ h => by cases d <;> exact h) ((Below.refl _ _).drew) (fun hHeld => ?_); simp only [Tree.map, List.getElem?_toArray, List.getElem?_cons_zero, List.getElem?_cons_succ]
  (repeat (first | (refine wpTree.take (v := undef) (Or.inr ⟨by rfl, rfl⟩) ?_; simp only [Act.put, List.setIfInBounds_toArray, List.set_cons_zero, List.set_cons_succ]) | (refine wpTree.take (v := .agg (vl m.f).toArray) (yieldsIf_load_mid rfl 24 _ rfl _ _ rfl (vl m.f) _ ?_ Tryz.underlying24 rfl (vinfoL _)) ?_; (focus (intro wq hS; exact (iv_all (blk_below HA.out hS (Nat.lt_succ_self _))).2.1)); simp only [Act.put, List.setIfInBounds_toArray, List.set_cons_zero, List.set_cons_succ]) | (refine wpTree.take (v := .agg m.x.cells.toArray) (yieldsIf_load_mid rfl 30 _ rfl _ _ rfl m.x.cells _ ?_ Tryz.underlying30 rfl (Pk.pcinfo _)) ?_; (focus (intro wq hS; exact (iv_all (blk_below HA.out hS (Nat.lt_succ_self _))).2.2.2.1)); simp only [Act.put, List.setIfInBounds_toArray, List.set_cons_zero, List.set_cons_succ]) | (refine wpTree.take (v := ?_) (Or.inl ⟨by rfl, ?_⟩) ?_; rotate_left; (focus (intro wq hS; obtain ⟨-, -, -, -, c0, c1, c2, c3, ct⟩ := iv_all (blk_below HA.out hS (Nat.lt_succ_self _)); obtain ⟨o0, o1, o2, o3⟩ := iv_op (blk_below HA.out hS (Nat.lt_succ_self _)); go_simp; (try (with_reducible rfl)); done)); simp only [Act.put, List.setIfInBounds_toArray, List.set_cons_zero, List.set_cons_succ])))
  refine wpTree.one (fun K hK => ?_)
  go_simp
  refine hK.out _ _ hHeld (fun _ => ?_)
  clear hK K
  (try simp only [Act.put, List.setIfInBounds_toArray, List.set_cons_zero, List.set_cons_succ])
  refine wpTree.take (yields_build' m.o.plain.toArray rfl 27 _ rfl HBO.out) ?_
  (try simp only [Act.put, List.setIfInBounds_toArray, List.set_cons_zero, List.set_cons_succ])
  refine wpTree.take (yields_build' (Iv.plain m).toArray rfl 32 _ rfl HBL.out) ?_
  (try simp only [Act.put, List.setIfInBounds_toArray, List.set_cons_zero, List.set_cons_succ])
  have k2 : Below w1.heap.size w1 w1.drew := (Below.refl _ _).drew
  have HR2 := Lib.hid (HR.out.drew)
  have HB2 := Lib.hid (HB.out.drew)
  obtain ⟨w2, hw2⟩ : ∃ w2, w2 = w1.drew := ⟨_, rfl⟩
  rw [← hw2] at k2 HR2 HB2 ⊢
  clear hw2 hHeld
  refine wpTree.one (fun K hK => ?_)
  refine step_store_blk (by rfl) 32 _ _ rfl (W.heap.size + 1) 32 zplA (Iv.plain m).toArray rfl rfl HR2.out (plinfoA m) (zpl_siz m) (pl_one m) ?_
  have hb3 := below_setRow HB2.out (show W.heap.size ≤ W.heap.size + 1 by omega) (Iv.plain m).toArray
  have hS3 := below_setRow (Below.refl (W.heap.size + 1) w2) (Nat.le_refl _) (Iv.plain m).toArray
  have hrow := HR2.out.setRow (Iv.plain m).toArray
  refine hK.out _ _ ((k2.mono (by have := HR.out.lt; omega)).trans hS3) (fun _ => ?_)
  clear hK K
  refine wpTree.done ?_
  clear hS3 k2 HR HA HB
  go_wp2_with fail
  exact bodyPost_row (t := 32) (Iv.plain m).toArray rfl rfl rfl Tryz.underlying32 rfl (plinfoA _) hrow ⟨rfl, hb3⟩
end In
end Go.Proofs.YtgnfachjobohoaaGreat
namespace Go.Proofs.YtgnfachjobohoaaGreat
open Go.RowKit
set_option linter.unusedSimpArgs false
set_option linter.unusedVariables false
namespace In
theorem app_lt {a b : List Nat} (ha : ∀ x ∈ a, x < 256) (hb : ∀ x ∈ b, x < 256) : ∀ x ∈ a ++ b, x < 256 := fun x hx => (List.mem_append.1 hx).elim (ha x) (hb x)
theorem nil_lt : ∀ x ∈ ([] : List Nat), x < 256 := fun x hx => by simp at hx
theorem if_lt {c : Bool} {a b : List Nat} (ha : ∀ x ∈ a, x < 256) (hb : ∀ x ∈ b, x < 256) : ∀ x ∈ (if c then a else b), x < 256 := by split <;> assumption
theorem encO_lt (o : OpR) : ∀ x ∈ encO o, x < 256 := by unfold encO; exact app_lt (enc_lt _) (app_lt (if_lt (enc_lt _) nil_lt) (app_lt (if_lt (enc_lt _) nil_lt) (if_lt (by unfold encF; exact be8_lt _) nil_lt)))
theorem encI_lt {m : Iv} (h : ∀ y ∈ m.x.p.bs, y < 256) : ∀ x ∈ encI m, x < 256 := by
  unfold encI
  exact app_lt (enc_lt _) (app_lt (if_lt (enc_lt _) nil_lt) (app_lt (if_lt (enc_lt _) nil_lt) (app_lt (if_lt (enc_lt _) nil_lt) (app_lt (if_lt (app_lt (encV_lt _) (enc_lt _)) nil_lt) (app_lt (if_lt (encO_lt _) nil_lt) (if_lt (app_lt (enc_lt _) (Pk.encP_256 h)) nil_lt))))))
/-- May an input be, and are its bytes not too many? -/
def goodI (m : Iv) : Bool := rightI m && decide ((encI m).length ≤ 1800)
/-- What is written: bytes, or an error. -/
def WrI (m : Iv) (v : Value) (c : Int) (W : World) : Prop := if goodI m then c = 0 ∧ ∃ A cp, v = .slice A (encI m).length cp ∧ (encI m).length ≤ cp ∧ Byt.ByR W A (encI m) ∧ (A = none → encI m = []) else c = 3 ∧ v = .slice none 0 0
theorem WrI.yes {m : Iv} {v : Value} {c : Int} {W : World} (h : WrI m v c W) (hr : goodI m = true) : c = 0 ∧ ∃ A cp, v = .slice A (encI m).length cp ∧ (encI m).length ≤ cp ∧ Byt.ByR W A (encI m) ∧ (A = none → encI m = []) := by unfold WrI at h; rwa [if_pos hr] at h
theorem WrI.no {m : Iv} {v : Value} {c : Int} {W : World} (h : WrI m v c W) (hr : goodI m = false) : c = 3 ∧ v = .slice none 0 0 := by unfold WrI at h; rwa [if_neg (by simp [hr])] at h
theorem write_any (m : Iv) (W : World) (ho : m.Ok) (hxo : m.x.Ok W) : Calls Tryz.prog 7 #[.agg m.cells.toArray] W fun e W' => ∃ v c, e = .returned (.tuple #[v, .int .i64 c]) ∧ WrI m v c W' ∧ Below W.heap.size W W' := by
  cases hr : rightI m with
  | false =>
    refine (write_no m W hxo hr).mono ?_
    rintro e W' ⟨rfl, hb⟩
    exact ⟨_, _, rfl, by unfold WrI goodI; rw [hr]; exact ⟨rfl, rfl⟩, hb⟩
  | true =>
    by_cases hl : (encI m).length ≤ 1800
    · refine (write_byr m W hxo ho hr hl).mono ?_
      rintro e W' ⟨A, c, rfl, h1, h2, h3, hb⟩
      exact ⟨_, _, rfl, by unfold WrI goodI; rw [hr, decide_eq_true hl]; exact ⟨rfl, A, c, rfl, h1, h2, h3⟩, hb⟩
    · refine (write_long m W hxo ho hr (by omega)).mono ?_
      rintro e W' ⟨rfl, hb⟩
      exact ⟨_, _, rfl, by unfold WrI goodI; rw [hr, decide_eq_false hl]; exact ⟨rfl, rfl⟩, hb⟩
end In
end Go.Proofs.YtgnfachjobohoaaGreat

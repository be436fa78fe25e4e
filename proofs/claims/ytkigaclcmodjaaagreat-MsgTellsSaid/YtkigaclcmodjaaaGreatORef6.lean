/-
The document's bytes of an event; plain data as the document's.
Plain data, and the program's event, as the document's.
A plain item as the document's event.
The program's event as the document's.
The document's events compared.
-/
import Derived.Test.YtkigaclcmodjaaaGreatORef2
import Derived.Test.YtkigaclcmodjaaaGreatEqs
namespace Go.Proofs.YtkigaclcmodjaaaGreat
open Go.RowKit
set_option linter.unusedSimpArgs false
set_option linter.unusedVariables false
theorem rpinfoL (o : OpR) : (Tryz.prog.info? 39).map (·.size) = some o.plain.length := by rw [plain_len]; kernel_rfl
set_option maxRecDepth 20000 in
set_option maxHeartbeats 8000000 in
theorem rwrite6_any (x : Ev) (hok : x.Ok) (hr : rightE x = true) (W : World) :
    Calls Tryz.prog 56 #[.agg x.item.toArray] W fun e W' => ∃ v, e = .returned v ∧ Made W W' v (encE x) := by
  obtain ⟨hrl, hmo⟩ := rightE_parts hr
  have HW5 := Lib.hid (show ∀ w, Calls Tryz.prog 55 #[.agg x.l.cells.toArray] w fun e w' => ∃ v, e = .returned v ∧ Made w w' v (encL x.l) from fun w => by
    obtain ⟨nd, ca, se, hl, h1, h2, h3, h4, h5, h6, h7, h8⟩ := lab_nats hrl
    have := rwrite5_any x.l.t nd x.l.n ca se x.l.f w (by omega) (by omega) (by omega) (by omega) (by omega) hok.l.f
    rw [← hl] at this
    exact this)
  have HWO := Lib.hid (show ∀ w, Calls Tryz.prog 81 #[.agg x.o.plain.toArray] w fun e w' => ∃ v, e = .returned v ∧ Made w w' v (encO x.o) from fun w => rwriteop6_any x.o hok.o w)
  have HLE := Lib.hid (show (encL x.l).length ≤ 200 ∧ (encO x.o).length ≤ 40 from ⟨encL_len hrl hok.l.f, encO_len hok.o⟩)
  have bA := Blk.new W 41 x.item.toArray
  have hsz : (W.alloc (.cells x.item.toArray 41)).heap.size = W.heap.size + 1 := by simp
  have hB0 := (Below.refl W.heap.size W).alloc (Nat.le_refl _) (.cells x.item.toArray 41)
  obtain ⟨_, rl, rp⟩ := item_all bA
  clear bA hrl hmo hr
  go_enter Tryz.func56, Tryz.ntmps56
  go_wp2_with fail
  obtain ⟨x1, hx1⟩ : ∃ x1, x1 = W.alloc (.cells x.item.toArray 41) := ⟨_, rfl⟩
  rw [← hx1] at rl rp hB0 hsz ⊢
  have HB := Lib.hid hB0
  have HRL := Lib.hid rl
  have HRP := Lib.hid rp
  clear hx1 hB0 hsz rl rp
  refine wp_region_tree (S := (fun W' => Below x1.heap.size x1 W')) (.take 0 (.take 1 (.take 3 (.take 4 (.one 2 (.one 5 (.one 6 (.take 7 .nil)))))))) 9999 (by kernel_rfl) (by kernel_rfl) (by kernel_rfl) (by kernel_rfl) (by kernel_rfl) (fun _ _ d _ _ h => by cases d <;> exact h) ?_ (fun hHeld => ?_); (focus (exact (Below.refl _ _).drew)); simp only [Tree.map, List.getElem?_toArray, List.getElem?_cons_zero, List.getElem?_cons_succ]
  (repeat (first | (refine wpTree.take (v := undef) (Or.inr ⟨by rfl, rfl⟩) ?_; simp only [Act.put, List.setIfInBounds_toArray, List.set_cons_zero, List.set_cons_succ]) | (refine wpTree.take (v := .agg (Lab.cells x.l).toArray) (yieldsIf_load_mid rfl 38 _ rfl _ _ rfl (Lab.cells x.l) _ ?_ Tryz.underlying38 rfl (rlinfo _)) ?_; (focus (intro _ hS; exact range_next hS HRL.out)); simp only [Act.put, List.setIfInBounds_toArray, List.set_cons_zero, List.set_cons_succ]) | (refine wpTree.take (v := .agg (OpR.plain x.o).toArray) (yieldsIf_load_mid rfl 39 _ rfl _ _ rfl (OpR.plain x.o) _ ?_ Tryz.underlying39 rfl (rpinfoL _)) ?_; (focus (intro _ hS; exact range_next hS HRP.out)); simp only [Act.put, List.setIfInBounds_toArray, List.set_cons_zero, List.set_cons_succ]) | (refine wpTree.take (v := ?_) (Or.inl ⟨by rfl, ?_⟩) ?_; rotate_left; (focus (intro _ hS; (try dsimp only at hS); go_split_ands; (try subst hS); go_simp; (try (with_reducible rfl)); done)); simp only [Act.put, List.setIfInBounds_toArray, List.set_cons_zero, List.set_cons_succ])))
  refine wpTree.one (fun K hK => ?_)
  go_simp
  go_at_call 55
  refine (HW5.out _).mono ?_
  rintro e y1 ⟨v1, rfl, hM1⟩
  have HM1 := Lib.hid hM1
  have HH1 := Lib.hid (Below.trans hHeld (hM1.2.mono (Below.size hHeld)))
  have HA1 := Lib.hid (Below.size hHeld)
  refine hK.out _ _ HH1.out (fun _ => ?_)
  clear hK K hM1 hHeld
  refine wpTree.one (fun K hK => ?_)
  go_simp
  go_at_call 81
  refine (HWO.out _).mono ?_
  rintro e y2 ⟨v2, rfl, hM2⟩
  obtain ⟨A2, c2, rfl, hS2⟩ := src_own hM2.1
  have HM2 := Lib.hid hM2
  have HS2 := Lib.hid hS2
  have HH2 := Lib.hid (HH1.out.trans (hM2.2.mono HH1.out.size))
  refine hK.out _ _ HH2.out (fun _ => ?_)
  clear hK K hM2 hS2
  refine wpTree.one (fun K hK => ?_)
  refine step_append_u8 _ (by rfl) _ _ rfl x1.heap.size v1 (encL x.l).length (u8s (encL x.l)) rfl (own_le (own_next HM1.out.1 HM2.out.2 HM1.out.2.size) HA1.out) A2 (encO x.o).length c2 (u8s (encO x.o)) rfl (u8s_len _) HS2.out (u8s_one _) (by obtain ⟨_, _⟩ := HLE.out; omega) HH2.out.size ?_
  intro v3 y3 hown hgrow
  have HO := Lib.hid hown
  have HH3 := Lib.hid (HH2.out.trans (grown_below (own_le (own_next HM1.out.1 HM2.out.2 HM1.out.2.size) HA1.out) hgrow HH2.out.size))
  clear hown hgrow
  refine hK.out _ _ HH3.out (fun _ => ?_)
  clear hK K
  (repeat (first | (refine wpTree.take (v := undef) (Or.inr ⟨by rfl, rfl⟩) ?_; simp only [Act.put, List.setIfInBounds_toArray, List.set_cons_zero, List.set_cons_succ]) | (refine wpTree.take (v := ?_) (Or.inl ⟨by rfl, ?_⟩) ?_; rotate_left; (focus (intro _ hS; (try dsimp only at hS); go_split_ands; (try subst hS); go_simp; (try (with_reducible rfl)); done)); simp only [Act.put, List.setIfInBounds_toArray, List.set_cons_zero, List.set_cons_succ])))
  refine wpTree.done ?_
  go_wp2_with fail
  all_goals
    go_ret
    refine ⟨v3, rfl, ?_, HB.out.trans (HH3.out.mono HB.out.size)⟩
    unfold encE
    rw [List.length_append, u8s_app]
    exact own_le HO.out HB.out.size
end Go.Proofs.YtkigaclcmodjaaaGreat
namespace Go.Proofs.YtkigaclcmodjaaaGreat
open Go.RowKit
set_option linter.unusedSimpArgs false
set_option linter.unusedVariables false
attribute [local go_sem] Tot.run_store_float
theorem lab_def (l : Lab) : l.cells = [.int .u64 (l.t : Nat), .int .i64 l.nd, .int .u32 (l.n : Nat), .int .i64 l.ca, .int .i64 l.se] ++ vl l.f := by
  apply List.ext_getElem?
  intro i
  rcases Nat.lt_or_ge i 5 with h | h
  · rcases (show i = 0 ∨ i = 1 ∨ i = 2 ∨ i = 3 ∨ i = 4 by omega) with rfl | rfl | rfl | rfl | rfl
    · exact lab_0
    · exact lab_1
    · exact lab_2
    · exact lab_3
    · exact lab_4
  · obtain ⟨j, rfl⟩ : ∃ j, i = 5 + j := ⟨i - 5, by omega⟩
    rw [lab_5, List.getElem?_append_right (by simp)]
    simp
theorem built_rlab_fill (parts : List (Nat × Value)) : Tryz.prog.built 38 parts = Instr.fill (#[(0, 1), (1, 1), (2, 1), (3, 1), (4, 1), (5, 12)][·]?) #[.int .u64 0, .int .i64 0, .int .u32 0, .int .i64 0, .int .i64 0, .int .u32 0, .int .u32 0, .int .u32 0, .int .u32 0, .int .u32 0, .int .u32 0, .int .u32 0, .int .u32 0, .int .u32 0, .int .u32 0, .int .u32 0, .int .u32 0] parts := by kernel_rfl
theorem fill_sc {place : Nat → Option (Nat × Nat)} {i off : Nat} {v m : Value} {pre post : List Value} {rest : List (Nat × Value)} (h : place i = some (off, 1)) (hv : v.cells = #[v]) (hp : pre.length = off) :
    Instr.fill place (pre ++ (m :: post)).toArray ((i, v) :: rest) = Instr.fill place (pre ++ (v :: post)).toArray rest := by
  have h1 := fill_one (place := place) (i := i) (off := off) (cs := [v]) (pre := pre) (mid := [m]) (post := post) (rest := rest) h hp rfl
  have h2 : Instr.fill place (pre ++ (m :: post)).toArray ((i, v) :: rest) = Instr.fill place (pre ++ (m :: post)).toArray ((i, .agg [v].toArray) :: rest) := by
    have hv2 : (Value.agg [v].toArray).cells = v.cells := by rw [hv]; rfl
    rw [Instr.fill, Instr.fill, h]
    dsimp only
    rw [hv2]
  exact h2.trans h1
theorem built_rlab (l : Lab) : Tryz.prog.built 38 [(0, .int .u64 (l.t : Nat)), (1, .int .i64 l.nd), (2, .int .u32 (l.n : Nat)), (3, .int .i64 l.ca), (4, .int .i64 l.se), (5, .agg (vl l.f).toArray)] = some l.cells.toArray := by
  rw [built_rlab_fill, lab_def]
  obtain ⟨place, hpl⟩ : ∃ place : Nat → Option (Nat × Nat), place = (#[(0, 1), (1, 1), (2, 1), (3, 1), (4, 1), (5, 12)][·]?) := ⟨_, rfl⟩
  have p0 : place 0 = some (0, 1) := by rw [hpl]; rfl
  have p1 : place 1 = some (1, 1) := by rw [hpl]; rfl
  have p2 : place 2 = some (2, 1) := by rw [hpl]; rfl
  have p3 : place 3 = some (3, 1) := by rw [hpl]; rfl
  have p4 : place 4 = some (4, 1) := by rw [hpl]; rfl
  have p5 : place 5 = some (5, (vl l.f).length) := by rw [hpl, vl_len]; rfl
  rw [← hpl]
  clear hpl
  refine (fill_sc (pre := []) p0 rfl rfl).trans ?_
  refine (fill_sc (pre := [_]) p1 rfl rfl).trans ?_
  refine (fill_sc (pre := [_, _]) p2 rfl rfl).trans ?_
  refine (fill_sc (pre := [_, _, _]) p3 rfl rfl).trans ?_
  refine (fill_sc (pre := [_, _, _, _]) p4 rfl rfl).trans ?_
  refine (fill_one (pre := [_, _, _, _, _]) (mid := [.int .u32 0, .int .u32 0, .int .u32 0, .int .u32 0, .int .u32 0, .int .u32 0, .int .u32 0, .int .u32 0, .int .u32 0, .int .u32 0, .int .u32 0, .int .u32 0]) (post := []) p5 rfl (by rw [vl_len]; rfl)).trans ?_
  rw [Instr.fill, List.append_nil]
theorem built_rop_fill (parts : List (Nat × Value)) : Tryz.prog.built 39 parts = Instr.fill (#[(0, 1), (1, 1), (2, 1), (3, 1)][·]?) #[.int .i64 0, .int .i64 0, .int .i64 0, .int .u64 0] parts := by kernel_rfl
theorem built_rop (o : OpR) : Tryz.prog.built 39 [(0, .int .i64 o.k), (1, .int .i64 o.s), (2, .int .i64 o.q), (3, .int .u64 (o.p : Nat))] = some o.plain.toArray := by
  rw [built_rop_fill, plain_arr]
  rfl
theorem built_plain_fill (parts : List (Nat × Value)) : Tryz.prog.built 29 parts = Instr.fill (#[(0, 1), (1, 1), (2, 1), (3, 1)][·]?) #[.int .i64 0, .int .i64 0, .int .i64 0, .int .u64 0] parts := by kernel_rfl
theorem built_plain (o : OpR) : Tryz.prog.built 29 [(0, .int .i64 o.k), (1, .int .i64 o.s), (2, .int .i64 o.q), (3, .int .u64 (o.p : Nat))] = some o.plain.toArray := by
  rw [built_plain_fill, plain_arr]
  rfl
theorem fill_item (l : Lab) (o : OpR) : Instr.fill (#[(0, 17), (17, 4)][·]?) #[.int .u64 0, .int .i64 0, .int .u32 0, .int .i64 0, .int .i64 0, .int .u32 0, .int .u32 0, .int .u32 0, .int .u32 0, .int .u32 0, .int .u32 0, .int .u32 0, .int .u32 0, .int .u32 0, .int .u32 0, .int .u32 0, .int .u32 0, .int .i64 0, .int .i64 0, .int .i64 0, .int .u64 0] [(0, .agg l.cells.toArray), (1, .agg o.plain.toArray)] = some (Ev.mk l o).item.toArray := by
  have h1 := fill_one (place := (#[(0, 17), (17, 4)][·]?)) (i := 0) (off := 0) (cs := l.cells) (pre := []) (mid := zLabL) (post := zOpRL) (rest := [(1, .agg o.plain.toArray)]) (by rw [lab_len]; rfl) rfl (by rw [lab_len]; rfl)
  have h2 := fill_one (place := (#[(0, 17), (17, 4)][·]?)) (i := 1) (off := 17) (cs := o.plain) (pre := l.cells) (mid := zOpRL) (post := []) (rest := []) (by rw [plain_len]; rfl) lab_len (by rw [plain_len]; rfl)
  have e : (#[.int .u64 0, .int .i64 0, .int .u32 0, .int .i64 0, .int .i64 0, .int .u32 0, .int .u32 0, .int .u32 0, .int .u32 0, .int .u32 0, .int .u32 0, .int .u32 0, .int .u32 0, .int .u32 0, .int .u32 0, .int .u32 0, .int .u32 0, .int .i64 0, .int .i64 0, .int .i64 0, .int .u64 0] : Array Value) = ([] ++ (zLabL ++ zOpRL)).toArray := rfl
  rw [e, h1, List.nil_append]
  rw [List.append_nil] at h2
  rw [h2, Instr.fill, List.append_nil, item_def]
theorem built_rev2 (l : Lab) (o : OpR) : Tryz.prog.built 41 [(0, .agg l.cells.toArray), (1, .agg o.plain.toArray)] = some (Ev.mk l o).item.toArray := by rw [built_rev_fill, fill_item]
theorem built_item_fill (parts : List (Nat × Value)) : Tryz.prog.built 31 parts = Instr.fill (#[(0, 17), (17, 4)][·]?) #[.int .u64 0, .int .i64 0, .int .u32 0, .int .i64 0, .int .i64 0, .int .u32 0, .int .u32 0, .int .u32 0, .int .u32 0, .int .u32 0, .int .u32 0, .int .u32 0, .int .u32 0, .int .u32 0, .int .u32 0, .int .u32 0, .int .u32 0, .int .i64 0, .int .i64 0, .int .i64 0, .int .u64 0] parts := by kernel_rfl
theorem built_item (l : Lab) (o : OpR) : Tryz.prog.built 31 [(0, .agg l.cells.toArray), (1, .agg o.plain.toArray)] = some (Ev.mk l o).item.toArray := by rw [built_item_fill, fill_item]
set_option maxRecDepth 20000 in
set_option maxHeartbeats 4000000 in
theorem as5_any (l : Lab) (W : World) : Calls Tryz.prog 21 #[.agg l.cells.toArray] W fun e W' => e = .returned (.agg l.cells.toArray) ∧ Below W.heap.size W W' := by
  have hsz : (W.alloc (.cells l.cells.toArray 27)).heap.size = W.heap.size + 1 := by simp
  have bA := (Blk.new W 27 l.cells.toArray).alloc (.cells #[.int .u64 0, .int .i64 0, .int .u32 0, .int .i64 0, .int .i64 0, .int .u32 0, .int .u32 0, .int .u32 0, .int .u32 0, .int .u32 0, .int .u32 0, .int .u32 0, .int .u32 0, .int .u32 0, .int .u32 0, .int .u32 0, .int .u32 0] 38)
  have bB := Blk.new (W.alloc (.cells l.cells.toArray 27)) 38 #[.int .u64 0, .int .i64 0, .int .u32 0, .int .i64 0, .int .i64 0, .int .u32 0, .int .u32 0, .int .u32 0, .int .u32 0, .int .u32 0, .int .u32 0, .int .u32 0, .int .u32 0, .int .u32 0, .int .u32 0, .int .u32 0, .int .u32 0]
  rw [hsz] at bB
  have hB0 := ((Below.refl W.heap.size W).alloc (Nat.le_refl _) (.cells l.cells.toArray 27)).alloc (by rw [hsz]; omega) (.cells #[.int .u64 0, .int .i64 0, .int .u32 0, .int .i64 0, .int .i64 0, .int .u32 0, .int .u32 0, .int .u32 0, .int .u32 0, .int .u32 0, .int .u32 0, .int .u32 0, .int .u32 0, .int .u32 0, .int .u32 0, .int .u32 0, .int .u32 0] 38)
  obtain ⟨q0, q1, q2, q3, q4, q5⟩ : (((W.alloc (.cells l.cells.toArray 27)).alloc (.cells #[.int .u64 0, .int .i64 0, .int .u32 0, .int .i64 0, .int .i64 0, .int .u32 0, .int .u32 0, .int .u32 0, .int .u32 0, .int .u32 0, .int .u32 0, .int .u32 0, .int .u32 0, .int .u32 0, .int .u32 0, .int .u32 0, .int .u32 0] 38)).cell? ⟨W.heap.size, 0, none⟩ = some (.int .u64 (l.t : Nat))) ∧ (((W.alloc (.cells l.cells.toArray 27)).alloc (.cells #[.int .u64 0, .int .i64 0, .int .u32 0, .int .i64 0, .int .i64 0, .int .u32 0, .int .u32 0, .int .u32 0, .int .u32 0, .int .u32 0, .int .u32 0, .int .u32 0, .int .u32 0, .int .u32 0, .int .u32 0, .int .u32 0, .int .u32 0] 38)).cell? ⟨W.heap.size, 1, none⟩ = some (.int .i64 l.nd)) ∧ (((W.alloc (.cells l.cells.toArray 27)).alloc (.cells #[.int .u64 0, .int .i64 0, .int .u32 0, .int .i64 0, .int .i64 0, .int .u32 0, .int .u32 0, .int .u32 0, .int .u32 0, .int .u32 0, .int .u32 0, .int .u32 0, .int .u32 0, .int .u32 0, .int .u32 0, .int .u32 0, .int .u32 0] 38)).cell? ⟨W.heap.size, 2, none⟩ = some (.int .u32 (l.n : Nat))) ∧ (((W.alloc (.cells l.cells.toArray 27)).alloc (.cells #[.int .u64 0, .int .i64 0, .int .u32 0, .int .i64 0, .int .i64 0, .int .u32 0, .int .u32 0, .int .u32 0, .int .u32 0, .int .u32 0, .int .u32 0, .int .u32 0, .int .u32 0, .int .u32 0, .int .u32 0, .int .u32 0, .int .u32 0] 38)).cell? ⟨W.heap.size, 3, none⟩ = some (.int .i64 l.ca)) ∧ (((W.alloc (.cells l.cells.toArray 27)).alloc (.cells #[.int .u64 0, .int .i64 0, .int .u32 0, .int .i64 0, .int .i64 0, .int .u32 0, .int .u32 0, .int .u32 0, .int .u32 0, .int .u32 0, .int .u32 0, .int .u32 0, .int .u32 0, .int .u32 0, .int .u32 0, .int .u32 0, .int .u32 0] 38)).cell? ⟨W.heap.size, 4, none⟩ = some (.int .i64 l.se)) ∧ ((W.alloc (.cells l.cells.toArray 27)).alloc (.cells #[.int .u64 0, .int .i64 0, .int .u32 0, .int .i64 0, .int .i64 0, .int .u32 0, .int .u32 0, .int .u32 0, .int .u32 0, .int .u32 0, .int .u32 0, .int .u32 0, .int .u32 0, .int .u32 0, .int .u32 0, .int .u32 0, .int .u32 0] 38)).rangeAt W.heap.size 5 (vl l.f) := by
    have hc : ∀ i, ((W.alloc (.cells l.cells.toArray 27)).alloc (.cells #[.int .u64 0, .int .i64 0, .int .u32 0, .int .i64 0, .int .i64 0, .int .u32 0, .int .u32 0, .int .u32 0, .int .u32 0, .int .u32 0, .int .u32 0, .int .u32 0, .int .u32 0, .int .u32 0, .int .u32 0, .int .u32 0, .int .u32 0] 38)).cell? ⟨W.heap.size, i, none⟩ = l.cells[i]? := fun i => by rw [bA.cell, List.getElem?_toArray]
    exact ⟨(hc 0).trans lab_0, (hc 1).trans lab_1, (hc 2).trans lab_2, (hc 3).trans lab_3, (hc 4).trans lab_4, fun j v hv => by rw [hc, lab_5, hv]⟩
  clear bA
  go_enter Tryz.func21, Tryz.ntmps21
  go_upto_region 1 with fail
  obtain ⟨W1, hw⟩ : ∃ W1, W1 = (W.alloc (.cells l.cells.toArray 27)).alloc (.cells #[.int .u64 0, .int .i64 0, .int .u32 0, .int .i64 0, .int .i64 0, .int .u32 0, .int .u32 0, .int .u32 0, .int .u32 0, .int .u32 0, .int .u32 0, .int .u32 0, .int .u32 0, .int .u32 0, .int .u32 0, .int .u32 0, .int .u32 0] 38) := ⟨_, rfl⟩
  rw [← hw] at q0 q1 q2 q3 q4 q5 bB hB0 ⊢
  clear hw hsz
  go_wp2_with (first | (refine wpList_load_mid rfl 25 _ rfl _ _ rfl (vl l.f) _ q5 Tryz.underlying25 rfl (vinfoL _) ?_) | (refine wpList_build_lit l.cells.toArray (by rfl) 38 [(0, _), (1, _), (2, _), (3, _), (4, _), (5, _)] rfl (built_rlab l) ?_) | (refine wpList_store_blk rfl 38 _ _ rfl (W.heap.size + 1) 38 #[.int .u64 0, .int .i64 0, .int .u32 0, .int .i64 0, .int .i64 0, .int .u32 0, .int .u32 0, .int .u32 0, .int .u32 0, .int .u32 0, .int .u32 0, .int .u32 0, .int .u32 0, .int .u32 0, .int .u32 0, .int .u32 0, .int .u32 0] l.cells.toArray rfl rfl bB (rlinfoA _) (rlab_siz l) (lab_one l) ?_; intro hrow))
  all_goals
    exact bodyPost_row (t := 38) l.cells.toArray rfl rfl rfl Tryz.underlying38 rfl (rlinfoA _) hrow ⟨rfl, below_setRow hB0 (Nat.le_succ _) _⟩
end Go.Proofs.YtkigaclcmodjaaaGreat
namespace Go.Proofs.YtkigaclcmodjaaaGreat
open Go.RowKit
set_option linter.unusedSimpArgs false
set_option linter.unusedVariables false
theorem item_parts {W : World} {b : Nat} {t : TypeId} {x : Ev} (h : Blk W b t x.item.toArray) : W.rangeAt b 0 x.l.cells ∧ W.cell? ⟨b, 17, none⟩ = some (.int .i64 x.o.k) ∧ W.cell? ⟨b, 18, none⟩ = some (.int .i64 x.o.s) ∧ W.cell? ⟨b, 19, none⟩ = some (.int .i64 x.o.q) ∧ W.cell? ⟨b, 20, none⟩ = some (.int .u64 (x.o.p : Nat)) := by
  obtain ⟨_, rl, rp⟩ := item_all h
  exact ⟨rl, rp 0 _ plain_0, rp 1 _ plain_1, rp 2 _ plain_2, rp 3 _ plain_3⟩
set_option maxRecDepth 20000 in
set_option maxHeartbeats 4000000 in
theorem as6_any (x : Ev) (W : World) : Calls Tryz.prog 22 #[.agg x.item.toArray] W fun e W' => e = .returned (.agg x.item.toArray) ∧ Below W.heap.size W W' := by
  have hsz : (W.alloc (.cells x.item.toArray 31)).heap.size = W.heap.size + 1 := by simp
  have bA := (Blk.new W 31 x.item.toArray).alloc (.cells #[.int .u64 0, .int .i64 0, .int .u32 0, .int .i64 0, .int .i64 0, .int .u32 0, .int .u32 0, .int .u32 0, .int .u32 0, .int .u32 0, .int .u32 0, .int .u32 0, .int .u32 0, .int .u32 0, .int .u32 0, .int .u32 0, .int .u32 0, .int .i64 0, .int .i64 0, .int .i64 0, .int .u64 0] 41)
  have bB := Blk.new (W.alloc (.cells x.item.toArray 31)) 41 #[.int .u64 0, .int .i64 0, .int .u32 0, .int .i64 0, .int .i64 0, .int .u32 0, .int .u32 0, .int .u32 0, .int .u32 0, .int .u32 0, .int .u32 0, .int .u32 0, .int .u32 0, .int .u32 0, .int .u32 0, .int .u32 0, .int .u32 0, .int .i64 0, .int .i64 0, .int .i64 0, .int .u64 0]
  rw [hsz] at bB
  have hB0 := ((Below.refl W.heap.size W).alloc (Nat.le_refl _) (.cells x.item.toArray 31)).alloc (by rw [hsz]; omega) (.cells #[.int .u64 0, .int .i64 0, .int .u32 0, .int .i64 0, .int .i64 0, .int .u32 0, .int .u32 0, .int .u32 0, .int .u32 0, .int .u32 0, .int .u32 0, .int .u32 0, .int .u32 0, .int .u32 0, .int .u32 0, .int .u32 0, .int .u32 0, .int .i64 0, .int .i64 0, .int .i64 0, .int .u64 0] 41)
  obtain ⟨rl, c0, c1, c2, c3⟩ := item_parts bA
  clear bA
  go_enter Tryz.func22, Tryz.ntmps22
  go_wp2_with fail
  obtain ⟨W1, hw⟩ : ∃ W1, W1 = (W.alloc (.cells x.item.toArray 31)).alloc (.cells #[.int .u64 0, .int .i64 0, .int .u32 0, .int .i64 0, .int .i64 0, .int .u32 0, .int .u32 0, .int .u32 0, .int .u32 0, .int .u32 0, .int .u32 0, .int .u32 0, .int .u32 0, .int .u32 0, .int .u32 0, .int .u32 0, .int .u32 0, .int .i64 0, .int .i64 0, .int .i64 0, .int .u64 0] 41) := ⟨_, rfl⟩
  rw [← hw] at rl c0 c1 c2 c3 bB hB0 ⊢
  clear hw hsz
  refine wp_region_tree (S := (fun W' => Below W.heap.size W W' ∧ W'.rangeAt W.heap.size 0 x.l.cells ∧ W'.cell? ⟨W.heap.size, 17, none⟩ = some (.int .i64 x.o.k) ∧ W'.cell? ⟨W.heap.size, 18, none⟩ = some (.int .i64 x.o.s) ∧ W'.cell? ⟨W.heap.size, 19, none⟩ = some (.int .i64 x.o.q) ∧ W'.cell? ⟨W.heap.size, 20, none⟩ = some (.int .u64 (x.o.p : Nat)) ∧ ∃ cs, Blk W' (W.heap.size + 1) 41 cs ∧ cs.size = 21)) (.take 0 (.take 1 (.take 3 (.take 4 (.take 5 (.take 6 (.take 7 (.take 8 (.take 9 (.take 10 (.take 11 (.take 12 (.take 13 (.take 14 (.take 15 (.one 2 (.take 16 (.one 17 .nil)))))))))))))))))) 9999 (by kernel_rfl) (by kernel_rfl) (by kernel_rfl) (by kernel_rfl) (by kernel_rfl) (fun _ _ d _ _ h => by cases d <;> exact h) ?_ (fun hHeld => ?_); (focus (exact ⟨hB0.drew, rl, c0, c1, c2, c3, _, bB.drew, rfl⟩)); simp only [Tree.map, List.getElem?_toArray, List.getElem?_cons_zero, List.getElem?_cons_succ]
  (repeat (first | (refine wpTree.take (v := undef) (Or.inr ⟨by rfl, rfl⟩) ?_; simp only [Act.put, List.setIfInBounds_toArray, List.set_cons_zero, List.set_cons_succ]) | (refine wpTree.take (v := .agg (Lab.cells x.l).toArray) (yieldsIf_load_mid rfl 27 _ rfl _ _ rfl (Lab.cells x.l) _ ?_ Tryz.underlying27 rfl (linfo _)) ?_; (focus (intro _ hS; exact hS.2.1)); simp only [Act.put, List.setIfInBounds_toArray, List.set_cons_zero, List.set_cons_succ]) | (refine wpTree.take (yields_build' x.o.plain.toArray (by rfl) 39 [(0, _), (1, _), (2, _), (3, _)] rfl (built_rop x.o)) ?_; simp only [Act.put, List.setIfInBounds_toArray, List.set_cons_zero, List.set_cons_succ]) | (refine wpTree.take (v := ?_) (Or.inl ⟨by rfl, ?_⟩) ?_; rotate_left; (focus (intro _ hS; (try dsimp only at hS); go_split_ands; (try subst hS); go_simp; (try (with_reducible rfl)); done)); simp only [Act.put, List.setIfInBounds_toArray, List.set_cons_zero, List.set_cons_succ])))
  refine wpTree.one (fun K hK => ?_)
  go_simp
  go_at_call 21
  refine (as5_any x.l _).mono ?_
  rintro e W2 ⟨rfl, hb2⟩
  obtain ⟨hbl, rl2, d0, d1, d2, d3, cs, bc, hcs⟩ := hHeld
  refine hK.out _ _ ⟨hbl.trans (hb2.mono hbl.size), range_next hb2 rl2, cell_next hb2 d0, cell_next hb2 d1, cell_next hb2 d2, cell_next hb2 d3, cs, bc.next hb2, hcs⟩ (fun hHeld => ?_)
  clear hK K hbl rl2 d0 d1 d2 d3 bc hcs rl c0 c1 c2 c3 bB hB0
  refine wpTree.take (yields_build' x.item.toArray (by rfl) 41 [(0, _), (1, _)] rfl (built_rev2 x.l x.o)) ?_
  simp only [Act.put, List.setIfInBounds_toArray, List.set_cons_zero, List.set_cons_succ]
  obtain ⟨hbl, rl2, d0, d1, d2, d3, cs, bc, hcs⟩ := hHeld
  refine wpTree.one (fun K hK => ?_)
  refine step_store_blk (by rfl) 41 _ _ rfl (W.heap.size + 1) 41 cs x.item.toArray rfl rfl bc (einfoA6 _) (hcs.trans (by rw [List.size_toArray, item_len])) (item_one _) ?_
  have hb3 := below_setRow hbl (show W.heap.size ≤ W.heap.size + 1 by omega) x.item.toArray
  have hS3 := below_setRow (Below.refl (W.heap.size + 1) W2) (Nat.le_refl _) x.item.toArray
  have up : ∀ i v, W2.cell? ⟨W.heap.size, i, none⟩ = some v → (W2.setRow (W.heap.size + 1) x.item.toArray).cell? ⟨W.heap.size, i, none⟩ = some v := fun i v hv => (hS3.cell (p := ⟨W.heap.size, i, none⟩) (Nat.lt_succ_self _)).trans hv
  refine hK.out _ _ ⟨hb3, fun j v hv => up _ _ (rl2 j v hv), up _ _ d0, up _ _ d1, up _ _ d2, up _ _ d3, _, bc.setRow _, by rw [List.size_toArray, item_len]⟩ (fun _ => ?_)
  clear hK K
  refine wpTree.done ?_
  have hrow := bc.setRow x.item.toArray
  clear hS3 bc rl2 up
  go_wp2_with fail
  exact bodyPost_row (t := 41) x.item.toArray rfl rfl rfl Tryz.underlying41 rfl (einfoA6 _) hrow ⟨rfl, hb3⟩
end Go.Proofs.YtkigaclcmodjaaaGreat
namespace Go.Proofs.YtkigaclcmodjaaaGreat
open Go.RowKit
set_option linter.unusedSimpArgs false
set_option linter.unusedVariables false
attribute [local go_sem] Tot.run_store_float
theorem event_parts {W : World} {b : Nat} {t : TypeId} {x : Ev} (h : Blk W b t x.cells.toArray) : W.rangeAt b 0 x.l.cells ∧ W.cell? ⟨b, 17, none⟩ = some (.int .i64 x.o.k) ∧ W.cell? ⟨b, 18, none⟩ = some (.int .i64 x.o.s) ∧ W.cell? ⟨b, 19, none⟩ = some (.int .i64 x.o.q) ∧ W.cell? ⟨b, 20, none⟩ = some (.float .f64 x.o.p) := by
  obtain ⟨_, rl, rp, _⟩ := ev_all h
  exact ⟨rl, rp 0 _ op_0, rp 1 _ op_1, rp 2 _ op_2, rp 3 _ op_3⟩
set_option maxRecDepth 20000 in
set_option maxHeartbeats 4000000 in
theorem of6_any (x : Ev) (W : World) : Calls Tryz.prog 54 #[.agg x.cells.toArray] W fun e W' => e = .returned (.agg x.item.toArray) ∧ Below W.heap.size W W' := by
  have hsz : (W.alloc (.cells x.cells.toArray 53)).heap.size = W.heap.size + 1 := by simp
  have bA := (Blk.new W 53 x.cells.toArray).alloc (.cells #[.int .u64 0, .int .i64 0, .int .u32 0, .int .i64 0, .int .i64 0, .int .u32 0, .int .u32 0, .int .u32 0, .int .u32 0, .int .u32 0, .int .u32 0, .int .u32 0, .int .u32 0, .int .u32 0, .int .u32 0, .int .u32 0, .int .u32 0, .int .i64 0, .int .i64 0, .int .i64 0, .int .u64 0] 41)
  have bB := Blk.new (W.alloc (.cells x.cells.toArray 53)) 41 #[.int .u64 0, .int .i64 0, .int .u32 0, .int .i64 0, .int .i64 0, .int .u32 0, .int .u32 0, .int .u32 0, .int .u32 0, .int .u32 0, .int .u32 0, .int .u32 0, .int .u32 0, .int .u32 0, .int .u32 0, .int .u32 0, .int .u32 0, .int .i64 0, .int .i64 0, .int .i64 0, .int .u64 0]
  rw [hsz] at bB
  have hB0 := ((Below.refl W.heap.size W).alloc (Nat.le_refl _) (.cells x.cells.toArray 53)).alloc (by rw [hsz]; omega) (.cells #[.int .u64 0, .int .i64 0, .int .u32 0, .int .i64 0, .int .i64 0, .int .u32 0, .int .u32 0, .int .u32 0, .int .u32 0, .int .u32 0, .int .u32 0, .int .u32 0, .int .u32 0, .int .u32 0, .int .u32 0, .int .u32 0, .int .u32 0, .int .i64 0, .int .i64 0, .int .i64 0, .int .u64 0] 41)
  obtain ⟨rl, c0, c1, c2, c3⟩ := event_parts bA
  have cb := Tot.call_bits
  clear bA
  go_enter Tryz.func54, Tryz.ntmps54
  go_wp2_with fail
  obtain ⟨W1, hw⟩ : ∃ W1, W1 = (W.alloc (.cells x.cells.toArray 53)).alloc (.cells #[.int .u64 0, .int .i64 0, .int .u32 0, .int .i64 0, .int .i64 0, .int .u32 0, .int .u32 0, .int .u32 0, .int .u32 0, .int .u32 0, .int .u32 0, .int .u32 0, .int .u32 0, .int .u32 0, .int .u32 0, .int .u32 0, .int .u32 0, .int .i64 0, .int .i64 0, .int .i64 0, .int .u64 0] 41) := ⟨_, rfl⟩
  rw [← hw] at rl c0 c1 c2 c3 bB hB0 ⊢
  clear hw hsz
  refine wp_region_tree (S := (fun W' => Below W.heap.size W W' ∧ W'.rangeAt W.heap.size 0 x.l.cells ∧ W'.cell? ⟨W.heap.size, 17, none⟩ = some (.int .i64 x.o.k) ∧ W'.cell? ⟨W.heap.size, 18, none⟩ = some (.int .i64 x.o.s) ∧ W'.cell? ⟨W.heap.size, 19, none⟩ = some (.int .i64 x.o.q) ∧ W'.cell? ⟨W.heap.size, 20, none⟩ = some (.float .f64 x.o.p) ∧ ∃ cs, Blk W' (W.heap.size + 1) 41 cs ∧ cs.size = 21)) (.take 0 (.take 1 (.take 2 (.take 3 (.take 4 (.take 5 (.take 6 (.take 7 (.take 8 (.take 9 (.take 10 (.take 11 (.take 12 (.take 13 (.one 14 (.take 15 (.take 16 (.one 17 (.one 18 .nil))))))))))))))))))) 9999 (by kernel_rfl) (by kernel_rfl) (by kernel_rfl) (by kernel_rfl) (by kernel_rfl) (fun _ _ d _ _ h => by cases d <;> exact h) ?_ (fun hHeld => ?_); (focus (exact ⟨hB0.drew, rl, c0, c1, c2, c3, _, bB.drew, rfl⟩)); simp only [Tree.map, List.getElem?_toArray, List.getElem?_cons_zero, List.getElem?_cons_succ]
  (repeat (first | (refine wpTree.take (v := undef) (Or.inr ⟨by rfl, rfl⟩) ?_; simp only [Act.put, List.setIfInBounds_toArray, List.set_cons_zero, List.set_cons_succ]) | (refine wpTree.take (v := .agg (Lab.cells x.l).toArray) (yieldsIf_load_mid rfl 27 _ rfl _ _ rfl (Lab.cells x.l) _ ?_ Tryz.underlying27 rfl (linfo _)) ?_; (focus (intro _ hS; exact hS.2.1)); simp only [Act.put, List.setIfInBounds_toArray, List.set_cons_zero, List.set_cons_succ]) | (refine wpTree.take (v := ?_) (Or.inl ⟨by rfl, ?_⟩) ?_; rotate_left; (focus (intro _ hS; (try dsimp only at hS); go_split_ands; (try subst hS); go_simp; (try (with_reducible rfl)); done)); simp only [Act.put, List.setIfInBounds_toArray, List.set_cons_zero, List.set_cons_succ])))
  refine wpTree.one (fun K hK => ?_)
  go_simp
  refine hK.out _ _ hHeld (fun _ => ?_)
  clear hK K
  refine wpTree.take (yields_build' x.o.plain.toArray (by rfl) 29 [(0, _), (1, _), (2, _), (3, _)] rfl (built_plain x.o)) ?_
  simp only [Act.put, List.setIfInBounds_toArray, List.set_cons_zero, List.set_cons_succ]
  refine wpTree.take (yields_build' x.item.toArray (by rfl) 31 [(0, _), (1, _)] rfl (built_item x.l x.o)) ?_
  simp only [Act.put, List.setIfInBounds_toArray, List.set_cons_zero, List.set_cons_succ]
  refine wpTree.one (fun K hK => ?_)
  go_simp
  go_at_call 22
  refine (as6_any x _).mono ?_
  rintro e W2 ⟨rfl, hb2⟩
  obtain ⟨hbl, rl2, d0, d1, d2, d3, cs, bc, hcs⟩ := hHeld
  refine hK.out _ _ ⟨hbl.trans (hb2.mono hbl.size), range_next hb2 rl2, cell_next hb2 d0, cell_next hb2 d1, cell_next hb2 d2, cell_next hb2 d3, cs, bc.next hb2, hcs⟩ (fun hHeld => ?_)
  clear hK K hbl rl2 d0 d1 d2 d3 bc hcs rl c0 c1 c2 c3 bB hB0
  obtain ⟨hbl, rl2, d0, d1, d2, d3, cs, bc, hcs⟩ := hHeld
  refine wpTree.one (fun K hK => ?_)
  refine step_store_blk (by rfl) 41 _ _ rfl (W.heap.size + 1) 41 cs x.item.toArray rfl rfl bc (einfoA6 _) (hcs.trans (by rw [List.size_toArray, item_len])) (item_one _) ?_
  have hb3 := below_setRow hbl (show W.heap.size ≤ W.heap.size + 1 by omega) x.item.toArray
  have hS3 := below_setRow (Below.refl (W.heap.size + 1) W2) (Nat.le_refl _) x.item.toArray
  have up : ∀ i v, W2.cell? ⟨W.heap.size, i, none⟩ = some v → (W2.setRow (W.heap.size + 1) x.item.toArray).cell? ⟨W.heap.size, i, none⟩ = some v := fun i v hv => (hS3.cell (p := ⟨W.heap.size, i, none⟩) (Nat.lt_succ_self _)).trans hv
  refine hK.out _ _ ⟨hb3, fun j v hv => up _ _ (rl2 j v hv), up _ _ d0, up _ _ d1, up _ _ d2, up _ _ d3, _, bc.setRow _, by rw [List.size_toArray, item_len]⟩ (fun _ => ?_)
  clear hK K
  refine wpTree.done ?_
  have hrow := bc.setRow x.item.toArray
  clear hS3 bc rl2 up
  go_wp2_with fail
  exact bodyPost_row (t := 41) x.item.toArray rfl rfl rfl Tryz.underlying41 rfl (einfoA6 _) hrow ⟨rfl, hb3⟩
end Go.Proofs.YtkigaclcmodjaaaGreat
namespace Go.Proofs.YtkigaclcmodjaaaGreat
open Go.RowKit
set_option linter.unusedSimpArgs false
set_option linter.unusedVariables false
set_option maxRecDepth 20000 in
theorem rlabFields : (Tryz.prog.fieldsOf 38).toList.map (fun f => (f.name != "_", f.type, f.offset)) = [(true, 22, 0), (true, 3, 1), (true, 23, 2), (true, 3, 3), (true, 3, 4), (true, 25, 5)] := by kernel_rfl
set_option maxRecDepth 20000 in
theorem ropFields : (Tryz.prog.fieldsOf 39).toList.map (fun f => (f.name != "_", f.type, f.offset)) = [(true, 3, 0), (true, 3, 1), (true, 3, 2), (true, 22, 3)] := by kernel_rfl
set_option maxRecDepth 20000 in
theorem revFields : (Tryz.prog.fieldsOf 41).toList.map (fun f => (f.name != "_", f.type, f.offset)) = [(true, 38, 0), (true, 39, 17)] := by kernel_rfl
set_option maxRecDepth 20000 in
theorem eq_rlab (a b : Lab) (w : World) : (Op.equalIn 9999 38 (.agg a.cells.toArray) (.agg b.cells.toArray)).run Tryz.prog w = .ok (eqL a b) w := by
  have g0 : ∀ l : Lab, l.cells.toArray[0]? = some (.int .u64 (l.t : Nat)) := fun l => by rw [List.getElem?_toArray]; exact lab_0
  have g1 : ∀ l : Lab, l.cells.toArray[1]? = some (.int .i64 l.nd) := fun l => by rw [List.getElem?_toArray]; exact lab_1
  have g2 : ∀ l : Lab, l.cells.toArray[2]? = some (.int .u32 (l.n : Nat)) := fun l => by rw [List.getElem?_toArray]; exact lab_2
  have g3 : ∀ l : Lab, l.cells.toArray[3]? = some (.int .i64 l.ca) := fun l => by rw [List.getElem?_toArray]; exact lab_3
  have g4 : ∀ l : Lab, l.cells.toArray[4]? = some (.int .i64 l.se) := fun l => by rw [List.getElem?_toArray]; exact lab_4
  have g5 : ∀ l : Lab, ∀ w, (part 25 l.cells.toArray 5).run Tryz.prog w = .ok (.agg (vl l.f).toArray) w := fun l w => by
    have hx : l.cells.toArray.extract 5 17 = (vl l.f).toArray := by
      apply Array.ext_getElem?
      intro i
      rw [Array.getElem?_extract, List.getElem?_toArray, List.getElem?_toArray, List.size_toArray, lab_len, lab_5]
      by_cases hi : i < 12
      · simp [hi]
      · have : (vl l.f)[i]? = none := List.getElem?_eq_none (by rw [vl_len]; omega)
        simp [this]
    have hx' : List.take 12 (List.drop 5 l.cells) = vl l.f := by simpa using congrArg Array.toList hx
    simp [part, isAgg, run_underlying Tryz.underlying25, run_sizeOf vsize, hx']
  rw [run_equalIn_struct w 9998 _ _ _ (by kernel_rfl) (by kernel_rfl), eq_tr 9998 _ _ _ _ w rlabFields]
  rw [run_eqTr w (part_u64 (g0 a)) (part_u64 (g0 b)) (fun w => run_equalIn_int w 9997 _ _ _ _ _ Tryz.underlying22), run_eqTr w (part_int (g1 a)) (part_int (g1 b)) (fun w => run_equalIn_int w 9997 _ _ _ _ _ Tryz.underlying3),
    run_eqTr w (part_u32 (g2 a)) (part_u32 (g2 b)) (fun w => run_equalIn_int w 9997 _ _ _ _ _ Tryz.underlying23), run_eqTr w (part_int (g3 a)) (part_int (g3 b)) (fun w => run_equalIn_int w 9997 _ _ _ _ _ Tryz.underlying3),
    run_eqTr w (part_int (g4 a)) (part_int (g4 b)) (fun w => run_equalIn_int w 9997 _ _ _ _ _ Tryz.underlying3), run_eqTr w (g5 a) (g5 b) (fun w => run_equalIn_vec 9996 a.f b.f w)]
  unfold eqL
  cases ((a.t : Int) == (b.t : Int)) <;> cases (a.nd == b.nd) <;> cases ((a.n : Int) == (b.n : Int)) <;> cases (a.ca == b.ca) <;> cases (a.se == b.se) <;> cases eqB a.f b.f <;> simp [eqTr]
set_option maxRecDepth 20000 in
theorem eq_rop (a b : OpR) (w : World) : (Op.equalIn 9999 39 (.agg a.plain.toArray) (.agg b.plain.toArray)).run Tryz.prog w = .ok (sameO a b) w := by
  rw [plain_arr, plain_arr]
  rw [run_equalIn_struct w 9998 _ _ _ (by kernel_rfl) (by kernel_rfl), eq_tr 9998 _ _ _ _ w ropFields]
  rw [run_eqTr w (part_int rfl) (part_int rfl) (fun w => run_equalIn_int w 9997 _ _ _ _ _ Tryz.underlying3), run_eqTr w (part_int rfl) (part_int rfl) (fun w => run_equalIn_int w 9997 _ _ _ _ _ Tryz.underlying3), run_eqTr w (part_int rfl) (part_int rfl) (fun w => run_equalIn_int w 9997 _ _ _ _ _ Tryz.underlying3), run_eqTr w (part_u64 rfl) (part_u64 rfl) (fun w => run_equalIn_int w 9997 _ _ _ _ _ Tryz.underlying22)]
  have h3 : (((a.p : Nat) : Int) == ((b.p : Nat) : Int)) = Num.sameB a.p b.p := by unfold Num.sameB; rw [Bool.eq_iff_iff]; simp; omega
  rw [h3]
  unfold sameO
  cases h1 : (a.k == b.k) <;> cases h2 : (a.s == b.s) <;> cases h4 : (a.q == b.q) <;> cases h5 : Num.sameB a.p b.p <;> simp [eqTr]
theorem item_ext1 (x : Ev) : x.item.toArray.extract 0 17 = x.l.cells.toArray := by
  rw [item_def]
  apply Array.ext_getElem?
  intro i
  rw [Array.getElem?_extract, List.getElem?_toArray, List.getElem?_toArray, List.size_toArray, List.length_append, lab_len, plain_len]
  by_cases hi : i < 17
  · simp [hi, List.getElem?_append_left, lab_len]
  · have : x.l.cells[i]? = none := List.getElem?_eq_none (by rw [lab_len]; omega)
    simp [hi, this]
theorem item_ext2 (x : Ev) : x.item.toArray.extract 17 21 = x.o.plain.toArray := by
  rw [item_def]
  apply Array.ext_getElem?
  intro i
  rw [Array.getElem?_extract, List.getElem?_toArray, List.getElem?_toArray, List.size_toArray, List.length_append, lab_len, plain_len, List.getElem?_append_right (by rw [lab_len]; omega), lab_len]
  by_cases hi : i < 4
  · simp [hi]
  · have : x.o.plain[i]? = none := List.getElem?_eq_none (by rw [plain_len]; omega)
    simp [this]
theorem labsize : (Tryz.prog.info? 38).map (·.size) = some 17 := by kernel_rfl
theorem opsize : (Tryz.prog.info? 39).map (·.size) = some 4 := by kernel_rfl
set_option maxRecDepth 20000 in
theorem part_rlab (x : Ev) (w : World) : (part 38 x.item.toArray 0).run Tryz.prog w = .ok (.agg x.l.cells.toArray) w := by
  have h := item_ext1 x
  have h' : List.take 17 x.item = x.l.cells := by simpa using congrArg Array.toList h
  simp [part, isAgg, run_underlying Tryz.underlying38, run_sizeOf labsize, h']
set_option maxRecDepth 20000 in
theorem part_rop (x : Ev) (w : World) : (part 39 x.item.toArray 17).run Tryz.prog w = .ok (.agg x.o.plain.toArray) w := by
  have h := item_ext2 x
  have h' : List.take 4 (List.drop 17 x.item) = x.o.plain := by simpa using congrArg Array.toList h
  simp [part, isAgg, run_underlying Tryz.underlying39, run_sizeOf opsize, h']
set_option maxRecDepth 20000 in
theorem eq_rev (x y : Ev) (w : World) : (Op.equalIn 10000 41 (.agg x.item.toArray) (.agg y.item.toArray)).run Tryz.prog w = .ok (sameE x y) w := by
  rw [run_equalIn_struct w 9999 _ _ _ (by kernel_rfl) (by kernel_rfl), eq_tr 9999 _ _ _ _ w revFields]
  rw [run_eqTr w (part_rlab x) (part_rlab y) (fun w => eq_rlab x.l y.l w), run_eqTr w (part_rop x) (part_rop y) (fun w => eq_rop x.o y.o w)]
  unfold sameE
  cases eqL x.l y.l <;> cases sameO x.o y.o <;> simp [eqTr]
end Go.Proofs.YtkigaclcmodjaaaGreat

/-
The fixed calls of layer 7: all hold.
-/
import Derived.Test.YtlejnjgepnjceaaMk4
import Derived.Deep.CutRange
namespace Go.Proofs.Ytlejnjgepnjceaa
open Go.RowKit
attribute [local go_sem] Tot.run_store_float

theorem al_f1 : flagM 1 = ⟨1, false, 0⟩ := by kernel_rfl
theorem al_f3 : flagM 3 = ⟨3, false, 0⟩ := by kernel_rfl
theorem al_f4 : flagM 4 = zM := by kernel_rfl
theorem al_f2 : flagM 2 = ⟨2, false, 0⟩ := by kernel_rfl
def al_m : Mk := ⟨3, true, 0⟩
def al_p : Mk := ⟨0, true, 9223372036854775808⟩
theorem al_join : joinM [⟨1, false, 0⟩, ⟨3, false, 0⟩, al_p, ⟨0, true, 0⟩] = al_m := by kernel_rfl
theorem al_c1 : coversM al_m al_p = true := by kernel_rfl
theorem al_c2 : coversM al_p al_m = false := by kernel_rfl
theorem al_same : sameM al_m al_m = true := by kernel_rfl
def al_t : Tt := ⟨2, 3, 1, 4613937818241073152⟩
theorem al_arr : al_m.cells.toArray = #[.int .i64 3, .bool true, .float .f64 0] := mk_arr al_m
theorem al_tarr : al_t.cells.toArray = #[.int .i64 2, .int .i64 3, .int .i64 1, .float .f64 4613937818241073152] := tt_arr al_t
theorem al_s0 : sameM zM zM = true := by kernel_rfl
theorem al_tot : totM ([(2 : Int), 1, 0].zip [⟨0, true, 4609434218613702656⟩, ⟨2, false, 0⟩, ⟨0, true, 4621256167635550208⟩]) = al_t := by kernel_rfl
theorem al_qs (w : World) : Qs (w.alloc (.cells #[.int .i64 2, .int .i64 1, .int .i64 0] 3)) (some ⟨w.heap.size, 0, none⟩) [2, 1, 0] := by
  refine Or.inr ⟨w.heap.size, 0, rfl, by simp, fun i hi => ?_⟩
  rw [(Blk.new w 3 _).cell, Nat.zero_add]
  match i, hi with
  | 0, _ => rfl
  | 1, _ => rfl
  | 2, _ => rfl
set_option maxRecDepth 100000 in
set_option maxHeartbeats 8000000 in
theorem alive7_any (W : World) : Calls Try.prog 28 #[] W fun e W' => e = .returned (.bool true) ∧ Below W.heap.size W W' := by
  have cb := Tot.call_frombits
  have HW0 := Lib.hid (Below.refl W.heap.size W)
  go_enter Try.func28, Try.ntmps28
  go_wp2_with fail
  refine (flag_any 1 W).mono ?_
  rintro e w1 ⟨rfl, hb⟩
  rw [al_f1]
  have HW1 := Lib.hid (HW0.out.trans (hb.mono HW0.out.size))
  clear hb HW0
  go_wp2_with fail
  refine (flag_any 3 w1).mono ?_
  rintro e w2 ⟨rfl, hb⟩
  rw [al_f3]
  have HW2 := Lib.hid (HW1.out.trans (hb.mono HW1.out.size))
  clear hb HW1
  go_wp2_with fail
  refine (price_any w2 9223372036854775808).mono ?_
  rintro e w3 ⟨rfl, hb⟩
  have HW3 := Lib.hid (HW2.out.trans (hb.mono HW2.out.size))
  clear hb HW2
  go_wp2_with fail
  refine (price_any w3 0).mono ?_
  rintro e w4 ⟨rfl, hb⟩
  have HW4 := Lib.hid (HW3.out.trans (hb.mono HW3.out.size))
  clear hb HW3
  go_wp2_with (first | (refine wpList_buildMks [⟨1, false, 0⟩, ⟨3, false, 0⟩, al_p, ⟨0, true, 0⟩] 4 _ (by rfl) rfl rfl (by decide) (by decide) zmks_4 (by simp [mkParts]; exact ⟨rfl, rfl, rfl, rfl⟩) ?_; have hr := mks_new w4 [⟨1, false, 0⟩, ⟨3, false, 0⟩, al_p, ⟨0, true, 0⟩]; have hb := (Below.refl w4.heap.size w4).alloc (Nat.le_refl _) (.cells ([⟨1, false, 0⟩, ⟨3, false, 0⟩, al_p, ⟨0, true, 0⟩].flatMap Mk.cells).toArray 65); obtain ⟨w5, hw5⟩ : ∃ w5, w5 = w4.alloc (.cells ([⟨1, false, 0⟩, ⟨3, false, 0⟩, al_p, ⟨0, true, 0⟩].flatMap Mk.cells).toArray 65) := ⟨_, rfl⟩; rw [← hw5] at hr hb ⊢; clear hw5; have HMR := Lib.hid hr; have HW5 := Lib.hid (HW4.out.trans (hb.mono HW4.out.size)); clear hr hb HW4))
  refine (mjoin_any _ 4 4 _ w5 rfl (by decide) HMR.out (by intro m hm; simp at hm; rcases hm with rfl | rfl | rfl | rfl <;> decide)).mono ?_
  rintro e w6 ⟨rfl, hb⟩
  rw [al_join]
  have HW6 := Lib.hid (HW5.out.trans (hb.mono HW5.out.size))
  clear hb HW5
  go_wp2_with (first | (refine wpList_store_blk rfl 65 _ _ rfl (w6).heap.size 65 #[.int .i64 0, .bool false, .float .f64 0] al_m.cells.toArray rfl rfl (Blk.new' rfl) (mkinfoA _) (mk_siz _) (mk_one _) ?_; intro hy; have hbn : Below (w6).heap.size w6 (((w6).alloc (.cells #[.int .i64 0, .bool false, .float .f64 0] 65)).setRow (w6).heap.size al_m.cells.toArray) := below_setRow ((Below.refl _ _).alloc (Nat.le_refl _) _) (Nat.le_refl _) _; obtain ⟨w7, hnw⟩ : ∃ w7, w7 = (((w6).alloc (.cells #[.int .i64 0, .bool false, .float .f64 0] 65)).setRow (w6).heap.size al_m.cells.toArray) := ⟨_, rfl⟩; rw [← hnw] at hbn hy ⊢; clear hnw; have HM7 := Lib.hid hy; have HW7 := Lib.hid (HW6.out.trans (hbn.mono HW6.out.size)); clear hy hbn HW6))
  obtain ⟨w8, hw8⟩ : ∃ w8, w8 = w7.alloc (.cells #[.int .i64 2, .int .i64 1, .int .i64 0] 3) := ⟨_, rfl⟩
  rw [← hw8]
  have hb := (Below.refl w7.heap.size w7).alloc (Nat.le_refl _) (.cells #[.int .i64 2, .int .i64 1, .int .i64 0] 3)
  have hq := al_qs w7
  rw [← hw8] at hb hq
  have HQ8 := Lib.hid hq
  have HM8 := Lib.hid (HM7.out.next hb)
  have HW8 := Lib.hid (HW7.out.trans (hb.mono HW7.out.size))
  clear hw8 hb hq HM7 HW7
  refine (price_any w8 4609434218613702656).mono ?_
  rintro e w9 ⟨rfl, hb⟩
  have HW9 := Lib.hid (HW8.out.trans (hb.mono HW8.out.size))
  have HM9 := Lib.hid (HM8.out.next hb)
  have HQ9 := Lib.hid (HQ8.out.next hb)
  clear hb HW8 HM8 HQ8
  go_wp2_with fail
  refine (flag_any 2 w9).mono ?_
  rintro e w10 ⟨rfl, hb⟩
  rw [al_f2]
  have HW10 := Lib.hid (HW9.out.trans (hb.mono HW9.out.size))
  have HM10 := Lib.hid (HM9.out.next hb)
  have HQ10 := Lib.hid (HQ9.out.next hb)
  clear hb HW9 HM9 HQ9
  go_wp2_with fail
  refine (price_any w10 4621256167635550208).mono ?_
  rintro e w11 ⟨rfl, hb⟩
  have HW11 := Lib.hid (HW10.out.trans (hb.mono HW10.out.size))
  have HM11 := Lib.hid (HM10.out.next hb)
  have HQ11 := Lib.hid (HQ10.out.next hb)
  clear hb HW10 HM10 HQ10
  go_wp2_with (first | (refine wpList_buildMks [⟨0, true, 4609434218613702656⟩, ⟨2, false, 0⟩, ⟨0, true, 4621256167635550208⟩] 3 _ (by rfl) rfl rfl (by decide) (by decide) zmks_3 (by simp [mkParts]; exact ⟨rfl, rfl, rfl⟩) ?_; have hr := mks_new w11 [⟨0, true, 4609434218613702656⟩, ⟨2, false, 0⟩, ⟨0, true, 4621256167635550208⟩]; have hb := (Below.refl w11.heap.size w11).alloc (Nat.le_refl _) (.cells (([⟨0, true, 4609434218613702656⟩, ⟨2, false, 0⟩, ⟨0, true, 4621256167635550208⟩] : List Mk).flatMap Mk.cells).toArray 65); obtain ⟨w12, hw12⟩ : ∃ w12, w12 = w11.alloc (.cells (([⟨0, true, 4609434218613702656⟩, ⟨2, false, 0⟩, ⟨0, true, 4621256167635550208⟩] : List Mk).flatMap Mk.cells).toArray 65) := ⟨_, rfl⟩; rw [← hw12] at hr hb ⊢; clear hw12; have HMR := Lib.hid hr; have HW12 := Lib.hid (HW11.out.trans (hb.mono HW11.out.size)); have HM12 := Lib.hid (HM11.out.next hb); have HQ12 := Lib.hid (HQ11.out.next hb); clear hr hb HW11 HM11 HQ11))
  refine (msum_any _ _ 3 3 3 3 [2, 1, 0] [⟨0, true, 4609434218613702656⟩, ⟨2, false, 0⟩, ⟨0, true, 4621256167635550208⟩] w12 rfl rfl (by decide) (by decide) HQ12.out HMR.out (by intro m hm; simp at hm; rcases hm with rfl | rfl | rfl <;> decide)).mono ?_
  rintro e w13 ⟨rfl, hb⟩
  rw [al_tot]
  have HW13 := Lib.hid (HW12.out.trans (hb.mono HW12.out.size))
  have HM13 := Lib.hid (HM12.out.next hb)
  clear hb HW12 HM12
  go_wp2_with (first | (refine wpList_store_blk rfl 83 _ _ rfl (w13).heap.size 83 #[.int .i64 0, .int .i64 0, .int .i64 0, .float .f64 0] al_t.cells.toArray rfl rfl (Blk.new' rfl) (ttinfoA _) (tt_siz _) (tt_one _) ?_; intro hy; have hbn : Below (w13).heap.size w13 (((w13).alloc (.cells #[.int .i64 0, .int .i64 0, .int .i64 0, .float .f64 0] 83)).setRow (w13).heap.size al_t.cells.toArray) := below_setRow ((Below.refl _ _).alloc (Nat.le_refl _) _) (Nat.le_refl _) _; obtain ⟨w14, hnw⟩ : ∃ w14, w14 = (((w13).alloc (.cells #[.int .i64 0, .int .i64 0, .int .i64 0, .float .f64 0] 83)).setRow (w13).heap.size al_t.cells.toArray) := ⟨_, rfl⟩; rw [← hnw] at hbn hy ⊢; clear hnw; have HT14 := Lib.hid hy; have HM14 := Lib.hid (HM13.out.next hbn); have HW14 := Lib.hid (HW13.out.trans (hbn.mono HW13.out.size)); clear hy hbn HW13 HM13))
  have rm := HM14.out.range
  have rt := HT14.out.range
  have HS1 := Lib.hid (show ∀ w, Calls Try.prog 36 #[.agg al_m.cells.toArray, .agg #[.int .i64 3, .bool true, .float .f64 0]] w fun e W' => e = .returned (.bool true) ∧ Below w.heap.size w W' from fun w => by rw [← al_arr]; have := msame_any al_m w al_m; rwa [al_same] at this)
  have HS2 := Lib.hid (show ∀ w, Calls Try.prog 44 #[.agg al_t.cells.toArray, .agg #[.int .i64 2, .int .i64 3, .int .i64 1, .float .f64 4613937818241073152]] w fun e W' => e = .returned (.bool true) ∧ Below w.heap.size w W' from fun w => by rw [← al_tarr]; have := sametotal_any al_t al_t w; rwa [sameT_self] at this)
  have HS3 := Lib.hid (show ∀ w, Calls Try.prog 36 #[.agg zM.cells.toArray, .agg #[.int .i64 0, .bool false, .float .f64 0]] w fun e W' => e = .returned (.bool true) ∧ Below w.heap.size w W' from fun w => by rw [← zM_arr]; have := msame_any zM w zM; rwa [al_s0] at this)
  have HC1 := Lib.hid (show ∀ w, Calls Try.prog 40 #[.agg al_m.cells.toArray, .agg al_p.cells.toArray] w fun e W' => e = .returned (.bool true) ∧ Below w.heap.size w W' from fun w => by have := mcovers_any al_m al_p (by decide) (by decide) w; rwa [al_c1] at this)
  have HC2 := Lib.hid (show ∀ w, Calls Try.prog 40 #[.agg al_p.cells.toArray, .agg al_m.cells.toArray] w fun e W' => e = .returned (.bool false) ∧ Below w.heap.size w W' from fun w => by have := mcovers_any al_p al_m (by decide) (by decide) w; rwa [al_c2] at this)
  have HP := Lib.hid (show ∀ w, Calls Try.prog 38 #[.float .f64 9223372036854775808] w fun e W' => e = .returned (.agg al_p.cells.toArray) ∧ Below w.heap.size w W' from fun w => price_any w 9223372036854775808)
  have HF4 := Lib.hid (show ∀ w, Calls Try.prog 37 #[.int .i64 4] w fun e W' => e = .returned (.agg zM.cells.toArray) ∧ Below w.heap.size w W' from fun w => by have := flag_any 4 w; rwa [al_f4] at this)
  clear cb
  refine wp_region_tree (S := (fun W' => Below (w14).heap.size w14 W')) (.take 0 (.take 1 (.one 2 (.take 3 (.take 4 (.take 5 (.one 6 (.take 7 (.take 8 (.take 9 (.take 10 (.one 11 (.one 12 (.take 13 (.take 14 (.take 15 (.take 17 (.one 16 (.one 18 (.take 19 (.take 20 (.take 21 (.take 23 (.one 22 (.one 24 (.take 25 (.take 26 .nil))))))))))))))))))))))))))) 9999 (by kernel_rfl) (by kernel_rfl) (by kernel_rfl) (by kernel_rfl) (by kernel_rfl) (fun _ _ d _ _ h => by cases d <;> exact h) ?_ (fun hHeld => ?_); (focus (exact (Below.refl _ _).drew)); simp only [Tree.map, List.getElem?_toArray, List.getElem?_cons_zero, List.getElem?_cons_succ]
  (repeat (first | (refine wpTree.take (v := undef) (Or.inr ⟨by rfl, rfl⟩) ?_; simp only [Act.put, List.setIfInBounds_toArray, List.set_cons_zero, List.set_cons_succ]) | (refine wpTree.take (v := .agg (Mk.cells ?_).toArray) (yieldsIf_load_mid rfl 65 _ rfl _ _ rfl (Mk.cells _) _ ?_ Try.underlying65 rfl (mkinfo _)) ?_; rotate_left; (focus (intro _ hS; refine mrange_next hS ?_; assumption)); simp only [Act.put, List.setIfInBounds_toArray, List.set_cons_zero, List.set_cons_succ]) | (refine wpTree.take (v := .agg (Tt.cells ?_).toArray) (yieldsIf_load_mid rfl 83 _ rfl _ _ rfl (Tt.cells _) _ ?_ Try.underlying83 rfl (ttinfo _)) ?_; rotate_left; (focus (intro _ hS; refine mrange_next hS ?_; assumption)); simp only [Act.put, List.setIfInBounds_toArray, List.set_cons_zero, List.set_cons_succ]) | (refine wpTree.take (v := ?_) (Or.inl ⟨by rfl, ?_⟩) ?_; rotate_left; (focus (intro _ hS; (try dsimp only at hS); go_split_ands; (try subst hS); go_simp; (try (with_reducible rfl)); done)); simp only [Act.put, List.setIfInBounds_toArray, List.set_cons_zero, List.set_cons_succ])))
  refine wpTree.one (fun K hK => ?_)
  go_simp
  go_at_call 36
  refine (HS1.out _).mono ?_
  rintro e x1 ⟨rfl, hbx1⟩
  have hBelow := Below.trans hHeld (hbx1.mono (Below.size hHeld))
  refine hK.out _ _ hBelow (fun hHeld' => ?_)
  clear hK K hHeld hbx1 hBelow
  have hHeld := hHeld'
  clear hHeld'
  (repeat (first | (refine wpTree.take (v := undef) (Or.inr ⟨by rfl, rfl⟩) ?_; simp only [Act.put, List.setIfInBounds_toArray, List.set_cons_zero, List.set_cons_succ]) | (refine wpTree.take (v := .agg (Mk.cells ?_).toArray) (yieldsIf_load_mid rfl 65 _ rfl _ _ rfl (Mk.cells _) _ ?_ Try.underlying65 rfl (mkinfo _)) ?_; rotate_left; (focus (intro _ hS; refine mrange_next hS ?_; assumption)); simp only [Act.put, List.setIfInBounds_toArray, List.set_cons_zero, List.set_cons_succ]) | (refine wpTree.take (v := .agg (Tt.cells ?_).toArray) (yieldsIf_load_mid rfl 83 _ rfl _ _ rfl (Tt.cells _) _ ?_ Try.underlying83 rfl (ttinfo _)) ?_; rotate_left; (focus (intro _ hS; refine mrange_next hS ?_; assumption)); simp only [Act.put, List.setIfInBounds_toArray, List.set_cons_zero, List.set_cons_succ]) | (refine wpTree.take (v := ?_) (Or.inl ⟨by rfl, ?_⟩) ?_; rotate_left; (focus (intro _ hS; (try dsimp only at hS); go_split_ands; (try subst hS); go_simp; (try (with_reducible rfl)); done)); simp only [Act.put, List.setIfInBounds_toArray, List.set_cons_zero, List.set_cons_succ])))
  refine wpTree.one (fun K hK => ?_)
  go_simp
  go_at_call 44
  refine (HS2.out _).mono ?_
  rintro e x2 ⟨rfl, hbx2⟩
  have hBelow := Below.trans hHeld (hbx2.mono (Below.size hHeld))
  refine hK.out _ _ hBelow (fun hHeld' => ?_)
  clear hK K hHeld hbx2 hBelow
  have hHeld := hHeld'
  clear hHeld'
  (repeat (first | (refine wpTree.take (v := undef) (Or.inr ⟨by rfl, rfl⟩) ?_; simp only [Act.put, List.setIfInBounds_toArray, List.set_cons_zero, List.set_cons_succ]) | (refine wpTree.take (v := .agg (Mk.cells ?_).toArray) (yieldsIf_load_mid rfl 65 _ rfl _ _ rfl (Mk.cells _) _ ?_ Try.underlying65 rfl (mkinfo _)) ?_; rotate_left; (focus (intro _ hS; refine mrange_next hS ?_; assumption)); simp only [Act.put, List.setIfInBounds_toArray, List.set_cons_zero, List.set_cons_succ]) | (refine wpTree.take (v := .agg (Tt.cells ?_).toArray) (yieldsIf_load_mid rfl 83 _ rfl _ _ rfl (Tt.cells _) _ ?_ Try.underlying83 rfl (ttinfo _)) ?_; rotate_left; (focus (intro _ hS; refine mrange_next hS ?_; assumption)); simp only [Act.put, List.setIfInBounds_toArray, List.set_cons_zero, List.set_cons_succ]) | (refine wpTree.take (v := ?_) (Or.inl ⟨by rfl, ?_⟩) ?_; rotate_left; (focus (intro _ hS; (try dsimp only at hS); go_split_ands; (try subst hS); go_simp; (try (with_reducible rfl)); done)); simp only [Act.put, List.setIfInBounds_toArray, List.set_cons_zero, List.set_cons_succ])))
  refine wpTree.one (fun K hK => ?_)
  go_simp
  go_at_call 38
  refine (HP.out _).mono ?_
  rintro e x3 ⟨rfl, hbx3⟩
  have hBelow := Below.trans hHeld (hbx3.mono (Below.size hHeld))
  refine hK.out _ _ hBelow (fun hHeld' => ?_)
  clear hK K hHeld hbx3 hBelow
  have hHeld := hHeld'
  clear hHeld'
  (repeat (first | (refine wpTree.take (v := undef) (Or.inr ⟨by rfl, rfl⟩) ?_; simp only [Act.put, List.setIfInBounds_toArray, List.set_cons_zero, List.set_cons_succ]) | (refine wpTree.take (v := .agg (Mk.cells ?_).toArray) (yieldsIf_load_mid rfl 65 _ rfl _ _ rfl (Mk.cells _) _ ?_ Try.underlying65 rfl (mkinfo _)) ?_; rotate_left; (focus (intro _ hS; refine mrange_next hS ?_; assumption)); simp only [Act.put, List.setIfInBounds_toArray, List.set_cons_zero, List.set_cons_succ]) | (refine wpTree.take (v := .agg (Tt.cells ?_).toArray) (yieldsIf_load_mid rfl 83 _ rfl _ _ rfl (Tt.cells _) _ ?_ Try.underlying83 rfl (ttinfo _)) ?_; rotate_left; (focus (intro _ hS; refine mrange_next hS ?_; assumption)); simp only [Act.put, List.setIfInBounds_toArray, List.set_cons_zero, List.set_cons_succ]) | (refine wpTree.take (v := ?_) (Or.inl ⟨by rfl, ?_⟩) ?_; rotate_left; (focus (intro _ hS; (try dsimp only at hS); go_split_ands; (try subst hS); go_simp; (try (with_reducible rfl)); done)); simp only [Act.put, List.setIfInBounds_toArray, List.set_cons_zero, List.set_cons_succ])))
  refine wpTree.one (fun K hK => ?_)
  go_simp
  go_at_call 40
  refine (HC1.out _).mono ?_
  rintro e x4 ⟨rfl, hbx4⟩
  have hBelow := Below.trans hHeld (hbx4.mono (Below.size hHeld))
  refine hK.out _ _ hBelow (fun hHeld' => ?_)
  clear hK K hHeld hbx4 hBelow
  have hHeld := hHeld'
  clear hHeld'
  (repeat (first | (refine wpTree.take (v := undef) (Or.inr ⟨by rfl, rfl⟩) ?_; simp only [Act.put, List.setIfInBounds_toArray, List.set_cons_zero, List.set_cons_succ]) | (refine wpTree.take (v := .agg (Mk.cells ?_).toArray) (yieldsIf_load_mid rfl 65 _ rfl _ _ rfl (Mk.cells _) _ ?_ Try.underlying65 rfl (mkinfo _)) ?_; rotate_left; (focus (intro _ hS; refine mrange_next hS ?_; assumption)); simp only [Act.put, List.setIfInBounds_toArray, List.set_cons_zero, List.set_cons_succ]) | (refine wpTree.take (v := .agg (Tt.cells ?_).toArray) (yieldsIf_load_mid rfl 83 _ rfl _ _ rfl (Tt.cells _) _ ?_ Try.underlying83 rfl (ttinfo _)) ?_; rotate_left; (focus (intro _ hS; refine mrange_next hS ?_; assumption)); simp only [Act.put, List.setIfInBounds_toArray, List.set_cons_zero, List.set_cons_succ]) | (refine wpTree.take (v := ?_) (Or.inl ⟨by rfl, ?_⟩) ?_; rotate_left; (focus (intro _ hS; (try dsimp only at hS); go_split_ands; (try subst hS); go_simp; (try (with_reducible rfl)); done)); simp only [Act.put, List.setIfInBounds_toArray, List.set_cons_zero, List.set_cons_succ])))
  refine wpTree.one (fun K hK => ?_)
  go_simp
  go_at_call 38
  refine (HP.out _).mono ?_
  rintro e x5 ⟨rfl, hbx5⟩
  have hBelow := Below.trans hHeld (hbx5.mono (Below.size hHeld))
  refine hK.out _ _ hBelow (fun hHeld' => ?_)
  clear hK K hHeld hbx5 hBelow
  have hHeld := hHeld'
  clear hHeld'
  (repeat (first | (refine wpTree.take (v := undef) (Or.inr ⟨by rfl, rfl⟩) ?_; simp only [Act.put, List.setIfInBounds_toArray, List.set_cons_zero, List.set_cons_succ]) | (refine wpTree.take (v := .agg (Mk.cells ?_).toArray) (yieldsIf_load_mid rfl 65 _ rfl _ _ rfl (Mk.cells _) _ ?_ Try.underlying65 rfl (mkinfo _)) ?_; rotate_left; (focus (intro _ hS; refine mrange_next hS ?_; assumption)); simp only [Act.put, List.setIfInBounds_toArray, List.set_cons_zero, List.set_cons_succ]) | (refine wpTree.take (v := .agg (Tt.cells ?_).toArray) (yieldsIf_load_mid rfl 83 _ rfl _ _ rfl (Tt.cells _) _ ?_ Try.underlying83 rfl (ttinfo _)) ?_; rotate_left; (focus (intro _ hS; refine mrange_next hS ?_; assumption)); simp only [Act.put, List.setIfInBounds_toArray, List.set_cons_zero, List.set_cons_succ]) | (refine wpTree.take (v := ?_) (Or.inl ⟨by rfl, ?_⟩) ?_; rotate_left; (focus (intro _ hS; (try dsimp only at hS); go_split_ands; (try subst hS); go_simp; (try (with_reducible rfl)); done)); simp only [Act.put, List.setIfInBounds_toArray, List.set_cons_zero, List.set_cons_succ])))
  refine wpTree.one (fun K hK => ?_)
  go_simp
  go_at_call 40
  refine (HC2.out _).mono ?_
  rintro e x6 ⟨rfl, hbx6⟩
  have hBelow := Below.trans hHeld (hbx6.mono (Below.size hHeld))
  refine hK.out _ _ hBelow (fun hHeld' => ?_)
  clear hK K hHeld hbx6 hBelow
  have hHeld := hHeld'
  clear hHeld'
  (repeat (first | (refine wpTree.take (v := undef) (Or.inr ⟨by rfl, rfl⟩) ?_; simp only [Act.put, List.setIfInBounds_toArray, List.set_cons_zero, List.set_cons_succ]) | (refine wpTree.take (v := .agg (Mk.cells ?_).toArray) (yieldsIf_load_mid rfl 65 _ rfl _ _ rfl (Mk.cells _) _ ?_ Try.underlying65 rfl (mkinfo _)) ?_; rotate_left; (focus (intro _ hS; refine mrange_next hS ?_; assumption)); simp only [Act.put, List.setIfInBounds_toArray, List.set_cons_zero, List.set_cons_succ]) | (refine wpTree.take (v := .agg (Tt.cells ?_).toArray) (yieldsIf_load_mid rfl 83 _ rfl _ _ rfl (Tt.cells _) _ ?_ Try.underlying83 rfl (ttinfo _)) ?_; rotate_left; (focus (intro _ hS; refine mrange_next hS ?_; assumption)); simp only [Act.put, List.setIfInBounds_toArray, List.set_cons_zero, List.set_cons_succ]) | (refine wpTree.take (v := ?_) (Or.inl ⟨by rfl, ?_⟩) ?_; rotate_left; (focus (intro _ hS; (try dsimp only at hS); go_split_ands; (try subst hS); go_simp; (try (with_reducible rfl)); done)); simp only [Act.put, List.setIfInBounds_toArray, List.set_cons_zero, List.set_cons_succ])))
  refine wpTree.one (fun K hK => ?_)
  go_simp
  go_at_call 37
  refine (HF4.out _).mono ?_
  rintro e x7 ⟨rfl, hbx7⟩
  have hBelow := Below.trans hHeld (hbx7.mono (Below.size hHeld))
  refine hK.out _ _ hBelow (fun hHeld' => ?_)
  clear hK K hHeld hbx7 hBelow
  have hHeld := hHeld'
  clear hHeld'
  (repeat (first | (refine wpTree.take (v := undef) (Or.inr ⟨by rfl, rfl⟩) ?_; simp only [Act.put, List.setIfInBounds_toArray, List.set_cons_zero, List.set_cons_succ]) | (refine wpTree.take (v := .agg (Mk.cells ?_).toArray) (yieldsIf_load_mid rfl 65 _ rfl _ _ rfl (Mk.cells _) _ ?_ Try.underlying65 rfl (mkinfo _)) ?_; rotate_left; (focus (intro _ hS; refine mrange_next hS ?_; assumption)); simp only [Act.put, List.setIfInBounds_toArray, List.set_cons_zero, List.set_cons_succ]) | (refine wpTree.take (v := .agg (Tt.cells ?_).toArray) (yieldsIf_load_mid rfl 83 _ rfl _ _ rfl (Tt.cells _) _ ?_ Try.underlying83 rfl (ttinfo _)) ?_; rotate_left; (focus (intro _ hS; refine mrange_next hS ?_; assumption)); simp only [Act.put, List.setIfInBounds_toArray, List.set_cons_zero, List.set_cons_succ]) | (refine wpTree.take (v := ?_) (Or.inl ⟨by rfl, ?_⟩) ?_; rotate_left; (focus (intro _ hS; (try dsimp only at hS); go_split_ands; (try subst hS); go_simp; (try (with_reducible rfl)); done)); simp only [Act.put, List.setIfInBounds_toArray, List.set_cons_zero, List.set_cons_succ])))
  refine wpTree.one (fun K hK => ?_)
  go_simp
  go_at_call 36
  refine (HS3.out _).mono ?_
  rintro e x8 ⟨rfl, hbx8⟩
  have hBelow := Below.trans hHeld (hbx8.mono (Below.size hHeld))
  refine hK.out _ _ hBelow (fun hHeld' => ?_)
  clear hK K hHeld hbx8 hBelow
  have hHeld := hHeld'
  clear hHeld'
  (repeat (first | (refine wpTree.take (v := undef) (Or.inr ⟨by rfl, rfl⟩) ?_; simp only [Act.put, List.setIfInBounds_toArray, List.set_cons_zero, List.set_cons_succ]) | (refine wpTree.take (v := .agg (Mk.cells ?_).toArray) (yieldsIf_load_mid rfl 65 _ rfl _ _ rfl (Mk.cells _) _ ?_ Try.underlying65 rfl (mkinfo _)) ?_; rotate_left; (focus (intro _ hS; refine mrange_next hS ?_; assumption)); simp only [Act.put, List.setIfInBounds_toArray, List.set_cons_zero, List.set_cons_succ]) | (refine wpTree.take (v := .agg (Tt.cells ?_).toArray) (yieldsIf_load_mid rfl 83 _ rfl _ _ rfl (Tt.cells _) _ ?_ Try.underlying83 rfl (ttinfo _)) ?_; rotate_left; (focus (intro _ hS; refine mrange_next hS ?_; assumption)); simp only [Act.put, List.setIfInBounds_toArray, List.set_cons_zero, List.set_cons_succ]) | (refine wpTree.take (v := ?_) (Or.inl ⟨by rfl, ?_⟩) ?_; rotate_left; (focus (intro _ hS; (try dsimp only at hS); go_split_ands; (try subst hS); go_simp; (try (with_reducible rfl)); done)); simp only [Act.put, List.setIfInBounds_toArray, List.set_cons_zero, List.set_cons_succ])))
  refine wpTree.done ?_
  have HF := Lib.hid (HW14.out.trans (hHeld.mono HW14.out.size))
  clear hHeld rm rt
  go_wp2_with fail
  go_ret
  exact ⟨rfl, HF.out⟩
end Go.Proofs.Ytlejnjgepnjceaa

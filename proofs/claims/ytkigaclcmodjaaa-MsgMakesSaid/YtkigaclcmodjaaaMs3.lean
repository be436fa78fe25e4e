/-
msg: rightStance, Same, Right.
-/
import Derived.Test.YtkigaclcmodjaaaMs2
namespace Go.Proofs.Ytkigaclcmodjaaa
open Go.RowKit
set_option linter.unusedSimpArgs false
set_option linter.unusedVariables false
namespace Mg
def rightS (s : St) : Bool := if s.h then decide (1 ≤ s.t) && decide (s.t ≤ 1099511627776) && decide (maxK s.f 11 ≤ 1048576) else decide (s.t = 0) && eqB s.f (fun _ => 0)
theorem built_st : Try.prog.built 33 [] = some St.zero.cells.toArray := by rw [show St.zero.cells.toArray = zStL.toArray from by rw [st_zeroL]]; kernel_rfl
set_option maxRecDepth 20000 in
set_option maxHeartbeats 1000000 in
theorem rightstance_any (s : St) (W : World) : Calls Try.prog 46 #[.agg s.cells.toArray] W fun e W' => e = .returned (.bool (rightS s)) ∧ Below W.heap.size W W' := by
  have bA := Blk.new W 33 s.cells.toArray
  have h2 : Below W.heap.size W (W.alloc (.cells s.cells.toArray 33)) := (Below.refl _ _).alloc (Nat.le_refl _) _
  obtain ⟨r0, r2, a0, a1⟩ := st_all bA
  have HB2 := Lib.hid h2
  clear bA h2
  unfold rightS
  cases hh : s.h with
  | false =>
    rw [hh] at a0
    have hq : ∀ w, (Op.equalIn 10000 33 (.agg s.cells.toArray) (.agg St.zero.cells.toArray)).run Try.prog w = .ok (eqSt s St.zero) w := fun w => eq_stD 9997 s St.zero w
    have HQ := Lib.hid (show eqSt s St.zero = (decide (s.t = 0) && eqB s.f fun _ => 0) by
      unfold eqSt St.zero
      rw [hh]
      have : ((s.t : Int) == ((0 : Nat) : Int)) = decide (s.t = 0) := by
        by_cases h : s.t = 0
        · simp [h]
        · rw [decide_eq_false h]; simpa using h
      rw [this]
      rfl)
    rw [HQ.out] at hq
    obtain ⟨z, hz⟩ : ∃ z, z = (decide (s.t = 0) && eqB s.f fun _ => 0) := ⟨_, rfl⟩
    have HZ := Lib.hid hz
    rw [← hz] at hq
    clear hz HQ
    go_enter Try.func46, Try.ntmps46
    go_wp2_with (first | (refine wpList_load_mid rfl 33 _ rfl _ _ rfl s.cells _ r0 Try.underlying33 rfl (stinfo s) ?_) | (refine wpList_build_lit St.zero.cells.toArray rfl 33 _ rfl built_st ?_))
    go_ret
    exact ⟨by rw [HZ.out]; rfl, HB2.out⟩
  | true =>
    rw [hh] at a0
    clear r0
    obtain ⟨M, hM⟩ : ∃ M, M = maxK s.f 11 := ⟨_, rfl⟩
    have HM := Lib.hid (fun w h => max_any s.f W.heap.size 2 w h)
    rw [← hM] at HM ⊢
    obtain ⟨t, ht⟩ : ∃ t, t = s.t := ⟨_, rfl⟩
    rw [← ht] at a1 ⊢
    have HR2 := Lib.hid r2
    clear hM ht r2
    by_cases p1 : (1 : Int) ≤ (t : Nat)
    · by_cases p2 : (t : Int) ≤ 1099511627776
      · have d1 : decide ((1 : Int) ≤ (t : Nat)) = true := decide_eq_true p1
        have d2 : decide ((t : Int) ≤ 1099511627776) = true := decide_eq_true p2
        have HA := Lib.hid (show (decide (1 ≤ t) && decide (t ≤ 1099511627776)) = true by simp; omega)
        clear p1 p2
        by_cases p3 : (M : Int) ≤ 1048576
        · have d3 : decide ((M : Int) ≤ 1048576) = true := decide_eq_true p3
          have HC := Lib.hid (show decide (M ≤ 1048576) = true by simp; omega)
          clear p3
          go_enter Try.func46, Try.ntmps46
          go_wp2_with (go_at_call 60; refine (HM.out _ HR2.out).mono ?_; rintro e w3 ⟨rfl, rfl⟩)
          go_ret
          exact ⟨by simp only [if_true]; rw [HA.out, HC.out]; rfl, HB2.out⟩
        · have d3 : decide ((M : Int) ≤ 1048576) = false := decide_eq_false p3
          have HC := Lib.hid (show decide (M ≤ 1048576) = false by simp; omega)
          clear p3
          go_enter Try.func46, Try.ntmps46
          go_wp2_with (go_at_call 60; refine (HM.out _ HR2.out).mono ?_; rintro e w3 ⟨rfl, rfl⟩)
          go_ret
          exact ⟨by simp only [if_true]; rw [HA.out, HC.out]; rfl, HB2.out⟩
      · have d1 : decide ((1 : Int) ≤ (t : Nat)) = true := decide_eq_true p1
        have d2 : decide ((t : Int) ≤ 1099511627776) = false := decide_eq_false p2
        have HZ := Lib.hid (show (decide (1 ≤ t) && decide (t ≤ 1099511627776) && decide (M ≤ 1048576)) = false by simp; omega)
        clear p1 p2
        go_enter Try.func46, Try.ntmps46
        go_wp2_with fail
        go_ret
        exact ⟨by simp only [if_true]; rw [HZ.out]; rfl, HB2.out⟩
    · have d1 : decide ((1 : Int) ≤ (t : Nat)) = false := decide_eq_false p1
      have HZ := Lib.hid (show (decide (1 ≤ t) && decide (t ≤ 1099511627776) && decide (M ≤ 1048576)) = false by simp; omega)
      clear p1
      go_enter Try.func46, Try.ntmps46
      go_wp2_with fail
      go_ret
      exact ⟨by simp only [if_true]; rw [HZ.out]; rfl, HB2.out⟩
/-- Are messages equal? -/
def sameM (a b : Ms) : Bool := sameE a.x b.x && eqM a b
def noX (m : Ms) : Ms := { m with x := Ev.zero }
theorem ez_info : (Try.prog.info? 48).map (·.size) = some Ev.zero.cells.toArray.size := einfoA _
theorem eqM_noX (a b : Ms) : eqM (noX a) (noX b) = eqM a b := rfl
set_option maxRecDepth 20000 in
set_option maxHeartbeats 4000000 in
theorem same_no (a b : Ms) (W : World) (hs : sameE a.x b.x = false) : Calls Try.prog 21 #[.agg a.cells.toArray, .agg b.cells.toArray] W fun e W' => e = .returned (.bool (false)) ∧ Below W.heap.size W W' := by
  have bA := (Blk.new W 50 a.cells.toArray).alloc (.cells b.cells.toArray 50)
  have bB : Blk ((W.alloc (.cells a.cells.toArray 50)).alloc (.cells b.cells.toArray 50)) (W.heap.size + 1) 50 b.cells.toArray := Blk.new' (by simp)
  have hB0 := ((Below.refl W.heap.size W).alloc (Nat.le_refl _) (.cells a.cells.toArray 50)).alloc (by simp) (.cells b.cells.toArray 50)
  obtain ⟨w1, hw1⟩ : ∃ w1, w1 = (W.alloc (.cells a.cells.toArray 50)).alloc (.cells b.cells.toArray 50) := ⟨_, rfl⟩
  rw [← hw1] at bA bB hB0
  have HW1 := Lib.hid hw1
  have HA := Lib.hid bA
  have HBb := Lib.hid bB
  have HB := Lib.hid hB0
  obtain ⟨_, _, ra, _⟩ := ms_all bA
  obtain ⟨_, _, rb, _⟩ := ms_all bB
  have HS := Lib.hid (esame_any a.x w1 b.x)
  rw [hs] at HS
  clear bA bB hB0 hw1 hs
  go_enter Try.func21, Try.ntmps21
  go_upto_region 1 with fail
  rw [← HW1.out]
  clear HW1
  go_upto_region 2 with (first | (refine wpList_load_midg (by rfl) 48 _ rfl _ _ rfl (Ev.cells ?_) _ ?_ Try.underlying48 rfl (einfo _) ?_; rotate_left; (focus assumption)) | (go_at_call 39; refine HS.out.mono ?_; rintro e w2 ⟨rfl, hb⟩; have HA2 := Lib.hid (HA.out.next hb); have HBb2 := Lib.hid (HBb.out.next hb); have HB2 := Lib.hid (HB.out.trans (hb.mono HB.out.size)); clear hb ra rb))
  clear HA HBb HB HS
  have ht1 := HA2.out.thereT (o := 22) (n := Ev.zero.cells.toArray.size) (by rw [List.size_toArray, List.size_toArray, ms_len, ev_len]; omega)
  have hyA := ms_setX HA2.out Ev.zero
  have hb1 : Below W.heap.size w2 (w2.setCells W.heap.size 22 Ev.zero.cells) := setCells_below (Nat.le_refl _) _ _ _ (Below.refl _ _)
  have hyB : Blk (w2.setCells W.heap.size 22 Ev.zero.cells) (W.heap.size + 1) 50 b.cells.toArray := (setCells_other W.heap.size _ 22 w2 (W.heap.size + 1) (by omega)).trans HBb2.out
  obtain ⟨w3, hw3⟩ : ∃ w3, w3 = w2.setCells W.heap.size 22 Ev.zero.cells := ⟨_, rfl⟩
  rw [← hw3] at hyA hb1 hyB
  have ht2 := hyB.thereT (o := 22) (n := Ev.zero.cells.toArray.size) (by rw [List.size_toArray, List.size_toArray, ms_len, ev_len]; omega)
  have hyA2 : Blk (w3.setCells (W.heap.size + 1) 22 Ev.zero.cells) W.heap.size 50 (noX a).cells.toArray := (setCells_other (W.heap.size + 1) _ 22 w3 W.heap.size (by omega)).trans hyA
  have hyB2 : Blk (w3.setCells (W.heap.size + 1) 22 Ev.zero.cells) (W.heap.size + 1) 50 (noX b).cells.toArray := ms_setX hyB Ev.zero
  have hb2 : Below W.heap.size w2 (w3.setCells (W.heap.size + 1) 22 Ev.zero.cells) := setCells_below (Nat.le_succ _) _ _ _ hb1
  obtain ⟨w4, hw4⟩ : ∃ w4, w4 = w3.setCells (W.heap.size + 1) 22 Ev.zero.cells := ⟨_, rfl⟩
  rw [← hw4] at hyA2 hyB2 hb2
  have HW3 := Lib.hid hw3
  have HW4 := Lib.hid hw4
  clear hw3 hw4 hyA hyB hb1
  go_upto_region 3 with (first | (refine wpList_build_lit Ev.zero.cells.toArray rfl 48 _ rfl built_ez ?_) | (refine wpList_store_mid rfl 48 _ _ rfl W.heap.size 22 Ev.zero.cells.toArray rfl rfl ht1 ez_info (ev_one _) ?_; show wpList _ _ _ _ _ (w2.setCells W.heap.size 22 Ev.zero.cells); rw [← HW3.out]) | (refine wpList_store_mid rfl 48 _ _ rfl (W.heap.size + 1) 22 Ev.zero.cells.toArray rfl rfl ht2 ez_info (ev_one _) ?_; show wpList _ _ _ _ _ (w3.setCells (W.heap.size + 1) 22 Ev.zero.cells); rw [← HW4.out]))
  clear ht1 ht2
  have HF := Lib.hid (HB2.out.trans hb2)
  have rA := hyA2.range
  have rB := hyB2.range
  have hq := fun w => eq_ms (noX a) (noX b) rfl rfl w
  rw [eqM_noX] at hq
  clear hb2 hyA2 hyB2 HW3 HW4 HA2 HBb2 HB2
  obtain ⟨a', ha'⟩ : ∃ a', a' = noX a := ⟨_, rfl⟩
  obtain ⟨b', hb'⟩ : ∃ b', b' = noX b := ⟨_, rfl⟩
  obtain ⟨r, hr⟩ : ∃ r, r = eqM a b := ⟨_, rfl⟩
  rw [← ha'] at rA hq
  rw [← hb'] at rB hq
  rw [← hr] at hq
  have HRR := Lib.hid hr
  clear ha' hb' hr
  go_wp2_with (first | (refine wpList_load_midg (by rfl) 50 _ rfl _ _ rfl (Ms.cells ?_) _ ?_ Try.underlying50 rfl (msinfo _) ?_; rotate_left; (focus assumption)))
  go_ret
  exact ⟨by first | rfl | (rw [HRR.out]; rfl) | (rw [← HRR.out]; rfl), HF.out⟩
set_option maxRecDepth 20000 in
set_option maxHeartbeats 4000000 in
theorem same_yes (a b : Ms) (W : World) (hs : sameE a.x b.x = true) : Calls Try.prog 21 #[.agg a.cells.toArray, .agg b.cells.toArray] W fun e W' => e = .returned (.bool (eqM a b)) ∧ Below W.heap.size W W' := by
  have bA := (Blk.new W 50 a.cells.toArray).alloc (.cells b.cells.toArray 50)
  have bB : Blk ((W.alloc (.cells a.cells.toArray 50)).alloc (.cells b.cells.toArray 50)) (W.heap.size + 1) 50 b.cells.toArray := Blk.new' (by simp)
  have hB0 := ((Below.refl W.heap.size W).alloc (Nat.le_refl _) (.cells a.cells.toArray 50)).alloc (by simp) (.cells b.cells.toArray 50)
  obtain ⟨w1, hw1⟩ : ∃ w1, w1 = (W.alloc (.cells a.cells.toArray 50)).alloc (.cells b.cells.toArray 50) := ⟨_, rfl⟩
  rw [← hw1] at bA bB hB0
  have HW1 := Lib.hid hw1
  have HA := Lib.hid bA
  have HBb := Lib.hid bB
  have HB := Lib.hid hB0
  obtain ⟨_, _, ra, _⟩ := ms_all bA
  obtain ⟨_, _, rb, _⟩ := ms_all bB
  have HS := Lib.hid (esame_any a.x w1 b.x)
  rw [hs] at HS
  clear bA bB hB0 hw1 hs
  go_enter Try.func21, Try.ntmps21
  go_upto_region 1 with fail
  rw [← HW1.out]
  clear HW1
  go_upto_region 2 with (first | (refine wpList_load_midg (by rfl) 48 _ rfl _ _ rfl (Ev.cells ?_) _ ?_ Try.underlying48 rfl (einfo _) ?_; rotate_left; (focus assumption)) | (go_at_call 39; refine HS.out.mono ?_; rintro e w2 ⟨rfl, hb⟩; have HA2 := Lib.hid (HA.out.next hb); have HBb2 := Lib.hid (HBb.out.next hb); have HB2 := Lib.hid (HB.out.trans (hb.mono HB.out.size)); clear hb ra rb))
  clear HA HBb HB HS
  have ht1 := HA2.out.thereT (o := 22) (n := Ev.zero.cells.toArray.size) (by rw [List.size_toArray, List.size_toArray, ms_len, ev_len]; omega)
  have hyA := ms_setX HA2.out Ev.zero
  have hb1 : Below W.heap.size w2 (w2.setCells W.heap.size 22 Ev.zero.cells) := setCells_below (Nat.le_refl _) _ _ _ (Below.refl _ _)
  have hyB : Blk (w2.setCells W.heap.size 22 Ev.zero.cells) (W.heap.size + 1) 50 b.cells.toArray := (setCells_other W.heap.size _ 22 w2 (W.heap.size + 1) (by omega)).trans HBb2.out
  obtain ⟨w3, hw3⟩ : ∃ w3, w3 = w2.setCells W.heap.size 22 Ev.zero.cells := ⟨_, rfl⟩
  rw [← hw3] at hyA hb1 hyB
  have ht2 := hyB.thereT (o := 22) (n := Ev.zero.cells.toArray.size) (by rw [List.size_toArray, List.size_toArray, ms_len, ev_len]; omega)
  have hyA2 : Blk (w3.setCells (W.heap.size + 1) 22 Ev.zero.cells) W.heap.size 50 (noX a).cells.toArray := (setCells_other (W.heap.size + 1) _ 22 w3 W.heap.size (by omega)).trans hyA
  have hyB2 : Blk (w3.setCells (W.heap.size + 1) 22 Ev.zero.cells) (W.heap.size + 1) 50 (noX b).cells.toArray := ms_setX hyB Ev.zero
  have hb2 : Below W.heap.size w2 (w3.setCells (W.heap.size + 1) 22 Ev.zero.cells) := setCells_below (Nat.le_succ _) _ _ _ hb1
  obtain ⟨w4, hw4⟩ : ∃ w4, w4 = w3.setCells (W.heap.size + 1) 22 Ev.zero.cells := ⟨_, rfl⟩
  rw [← hw4] at hyA2 hyB2 hb2
  have HW3 := Lib.hid hw3
  have HW4 := Lib.hid hw4
  clear hw3 hw4 hyA hyB hb1
  go_upto_region 3 with (first | (refine wpList_build_lit Ev.zero.cells.toArray rfl 48 _ rfl built_ez ?_) | (refine wpList_store_mid rfl 48 _ _ rfl W.heap.size 22 Ev.zero.cells.toArray rfl rfl ht1 ez_info (ev_one _) ?_; show wpList _ _ _ _ _ (w2.setCells W.heap.size 22 Ev.zero.cells); rw [← HW3.out]) | (refine wpList_store_mid rfl 48 _ _ rfl (W.heap.size + 1) 22 Ev.zero.cells.toArray rfl rfl ht2 ez_info (ev_one _) ?_; show wpList _ _ _ _ _ (w3.setCells (W.heap.size + 1) 22 Ev.zero.cells); rw [← HW4.out]))
  clear ht1 ht2
  have HF := Lib.hid (HB2.out.trans hb2)
  have rA := hyA2.range
  have rB := hyB2.range
  have hq := fun w => eq_ms (noX a) (noX b) rfl rfl w
  rw [eqM_noX] at hq
  clear hb2 hyA2 hyB2 HW3 HW4 HA2 HBb2 HB2
  obtain ⟨a', ha'⟩ : ∃ a', a' = noX a := ⟨_, rfl⟩
  obtain ⟨b', hb'⟩ : ∃ b', b' = noX b := ⟨_, rfl⟩
  obtain ⟨r, hr⟩ : ∃ r, r = eqM a b := ⟨_, rfl⟩
  rw [← ha'] at rA hq
  rw [← hb'] at rB hq
  rw [← hr] at hq
  have HRR := Lib.hid hr
  clear ha' hb' hr
  go_wp2_with (first | (refine wpList_load_midg (by rfl) 50 _ rfl _ _ rfl (Ms.cells ?_) _ ?_ Try.underlying50 rfl (msinfo _) ?_; rotate_left; (focus assumption)))
  go_ret
  exact ⟨by first | rfl | (rw [HRR.out]; rfl) | (rw [← HRR.out]; rfl), HF.out⟩
theorem same_any (a b : Ms) (W : World) : Calls Try.prog 21 #[.agg a.cells.toArray, .agg b.cells.toArray] W fun e W' => e = .returned (.bool (sameM a b)) ∧ Below W.heap.size W W' := by
  unfold sameM
  cases h : sameE a.x b.x with
  | false => rw [Bool.false_and]; exact same_no a b W h
  | true => rw [Bool.true_and]; exact same_yes a b W h
def bodyM (m : Ms) : Bool := if hl m.k then rightL m.l else if hev m.k then rightE m.x else if hse m.k then withinB m.se 1 12 && withinB m.co 0 200 else if hst m.k then withinB m.ca 1 12 && withinB m.ro 1 21 && rightS m.s else false
/-- May a message be? -/
def rightM (m : Ms) : Bool := sameM m (partsM m) && bodyM m
set_option maxRecDepth 20000 in
set_option maxHeartbeats 4000000 in
theorem right_off (m : Ms) (W : World) (h : sameM m (partsM m) = false) : Calls Try.prog 24 #[.agg m.cells.toArray] W fun e W' => e = .returned (.bool (false)) ∧ Below W.heap.size W W' := by
  have bA := Blk.new W 50 m.cells.toArray
  have hB0 := (Below.refl W.heap.size W).alloc (Nat.le_refl _) (.cells m.cells.toArray 50)
  have ro := bA.range
  have HS := Lib.hid (same_any m (partsM m))
  rw [h] at HS
  clear h
  go_enter Try.func24, Try.ntmps24
  go_upto_region 1 with fail
  obtain ⟨W1, hw⟩ : ∃ W1, W1 = W.alloc (.cells m.cells.toArray 50) := ⟨_, rfl⟩
  rw [← hw] at hB0 ro bA ⊢
  clear hw
  refine wp_region_tree (S := (fun W' => Below W1.heap.size W1 W' ∧ W'.rangeAt W.heap.size 0 m.cells)) (.take 0 (.take 1 (.one 2 (.one 3 (.take 4 .nil))))) 9999 (by kernel_rfl) (by kernel_rfl) (by kernel_rfl) (by kernel_rfl) (by kernel_rfl) (fun _ _ d _ _ h => by cases d <;> exact h) ⟨(Below.refl _ _).drew, ro⟩ (fun hHeld => ?_); simp only [Tree.map, List.getElem?_toArray, List.getElem?_cons_zero, List.getElem?_cons_succ]
  (repeat (first | (refine wpTree.take (v := undef) (Or.inr ⟨by rfl, rfl⟩) ?_; simp only [Act.put, List.setIfInBounds_toArray, List.set_cons_zero, List.set_cons_succ]) | (refine wpTree.take (v := .agg (Ms.cells ?_).toArray) (yieldsIf_load_mid rfl 50 _ rfl _ _ rfl (Ms.cells _) _ ?_ Try.underlying50 rfl (msinfo _)) ?_; rotate_left; (focus (intro _ hS; exact hS.2)); simp only [Act.put, List.setIfInBounds_toArray, List.set_cons_zero, List.set_cons_succ]) | (refine wpTree.take (v := ?_) (Or.inl ⟨by rfl, ?_⟩) ?_; rotate_left; (focus (intro _ hS; (try dsimp only at hS); go_split_ands; (try subst hS); go_simp; (try (with_reducible rfl)); done)); simp only [Act.put, List.setIfInBounds_toArray, List.set_cons_zero, List.set_cons_succ])))
  refine wpTree.one (fun K hK => ?_)
  go_simp
  go_at_call 42
  refine (parts_any m _).mono ?_
  rintro e W2 ⟨rfl, hb⟩
  have h2 : Below W1.heap.size W1 W2 := hHeld.1.trans (hb.mono hHeld.1.size)
  have r2 := range_next hb hHeld.2
  refine hK.out _ _ ⟨h2, r2⟩ (fun _ => ?_)
  clear hK K hb hHeld
  (try simp only [Act.put, List.setIfInBounds_toArray, List.set_cons_zero, List.set_cons_succ])
  refine wpTree.one (fun K hK => ?_)
  go_simp
  go_at_call 21
  refine (HS.out _).mono ?_
  rintro e W3 ⟨rfl, hb⟩
  have h3 : Below W1.heap.size W1 W3 := h2.trans (hb.mono h2.size)
  have r3 := range_next hb r2
  refine hK.out _ _ ⟨h3, r3⟩ (fun _ => ?_)
  clear hK K hb r2
  (try simp only [Act.put, List.setIfInBounds_toArray, List.set_cons_zero, List.set_cons_succ])
  (repeat (first | (refine wpTree.take (v := undef) (Or.inr ⟨by rfl, rfl⟩) ?_; simp only [Act.put, List.setIfInBounds_toArray, List.set_cons_zero, List.set_cons_succ]) | (refine wpTree.take (v := ?_) (Or.inl ⟨by rfl, ?_⟩) ?_; rotate_left; (focus (intro _ hS; (try dsimp only at hS); go_split_ands; (try subst hS); go_simp; (try (with_reducible rfl)); done)); simp only [Act.put, List.setIfInBounds_toArray, List.set_cons_zero, List.set_cons_succ])))
  refine wpTree.done ?_
  have HF := Lib.hid (hB0.trans (h3.mono hB0.size))
  obtain ⟨_, rl, rx, rs, c0, c1, c2, c3, c4⟩ := ms_all (bA.next h3)
  clear hB0 h2 h3 bA ro r3 HS
  clear rl rx rs c0 c1 c2 c3 c4
  go_wp2_with fail
  go_ret
  exact ⟨rfl, HF.out⟩
set_option maxRecDepth 20000 in
set_option maxHeartbeats 4000000 in
theorem right_no (m : Ms) (W : World) (h : sameM m (partsM m) = true) (h1 : hl m.k = false) (h2 : hev m.k = false) (h3 : hse m.k = false) (h4 : hst m.k = false) : Calls Try.prog 24 #[.agg m.cells.toArray] W fun e W' => e = .returned (.bool (bodyM m)) ∧ Below W.heap.size W W' := by
  have bA := Blk.new W 50 m.cells.toArray
  have hB0 := (Below.refl W.heap.size W).alloc (Nat.le_refl _) (.cells m.cells.toArray 50)
  have ro := bA.range
  have HS := Lib.hid (same_any m (partsM m))
  rw [h] at HS
  clear h
  go_enter Try.func24, Try.ntmps24
  go_upto_region 1 with fail
  obtain ⟨W1, hw⟩ : ∃ W1, W1 = W.alloc (.cells m.cells.toArray 50) := ⟨_, rfl⟩
  rw [← hw] at hB0 ro bA ⊢
  clear hw
  refine wp_region_tree (S := (fun W' => Below W1.heap.size W1 W' ∧ W'.rangeAt W.heap.size 0 m.cells)) (.take 0 (.take 1 (.one 2 (.one 3 (.take 4 .nil))))) 9999 (by kernel_rfl) (by kernel_rfl) (by kernel_rfl) (by kernel_rfl) (by kernel_rfl) (fun _ _ d _ _ h => by cases d <;> exact h) ⟨(Below.refl _ _).drew, ro⟩ (fun hHeld => ?_); simp only [Tree.map, List.getElem?_toArray, List.getElem?_cons_zero, List.getElem?_cons_succ]
  (repeat (first | (refine wpTree.take (v := undef) (Or.inr ⟨by rfl, rfl⟩) ?_; simp only [Act.put, List.setIfInBounds_toArray, List.set_cons_zero, List.set_cons_succ]) | (refine wpTree.take (v := .agg (Ms.cells ?_).toArray) (yieldsIf_load_mid rfl 50 _ rfl _ _ rfl (Ms.cells _) _ ?_ Try.underlying50 rfl (msinfo _)) ?_; rotate_left; (focus (intro _ hS; exact hS.2)); simp only [Act.put, List.setIfInBounds_toArray, List.set_cons_zero, List.set_cons_succ]) | (refine wpTree.take (v := ?_) (Or.inl ⟨by rfl, ?_⟩) ?_; rotate_left; (focus (intro _ hS; (try dsimp only at hS); go_split_ands; (try subst hS); go_simp; (try (with_reducible rfl)); done)); simp only [Act.put, List.setIfInBounds_toArray, List.set_cons_zero, List.set_cons_succ])))
  refine wpTree.one (fun K hK => ?_)
  go_simp
  go_at_call 42
  refine (parts_any m _).mono ?_
  rintro e W2 ⟨rfl, hb⟩
  have h2 : Below W1.heap.size W1 W2 := hHeld.1.trans (hb.mono hHeld.1.size)
  have r2 := range_next hb hHeld.2
  refine hK.out _ _ ⟨h2, r2⟩ (fun _ => ?_)
  clear hK K hb hHeld
  (try simp only [Act.put, List.setIfInBounds_toArray, List.set_cons_zero, List.set_cons_succ])
  refine wpTree.one (fun K hK => ?_)
  go_simp
  go_at_call 21
  refine (HS.out _).mono ?_
  rintro e W3 ⟨rfl, hb⟩
  have h3 : Below W1.heap.size W1 W3 := h2.trans (hb.mono h2.size)
  have r3 := range_next hb r2
  refine hK.out _ _ ⟨h3, r3⟩ (fun _ => ?_)
  clear hK K hb r2
  (try simp only [Act.put, List.setIfInBounds_toArray, List.set_cons_zero, List.set_cons_succ])
  (repeat (first | (refine wpTree.take (v := undef) (Or.inr ⟨by rfl, rfl⟩) ?_; simp only [Act.put, List.setIfInBounds_toArray, List.set_cons_zero, List.set_cons_succ]) | (refine wpTree.take (v := ?_) (Or.inl ⟨by rfl, ?_⟩) ?_; rotate_left; (focus (intro _ hS; (try dsimp only at hS); go_split_ands; (try subst hS); go_simp; (try (with_reducible rfl)); done)); simp only [Act.put, List.setIfInBounds_toArray, List.set_cons_zero, List.set_cons_succ])))
  refine wpTree.done ?_
  have HF := Lib.hid (hB0.trans (h3.mono hB0.size))
  obtain ⟨_, rl, rx, rs, c0, c1, c2, c3, c4⟩ := ms_all (bA.next h3)
  clear hB0 h2 h3 bA ro r3 HS
  have HBD := Lib.hid (show bodyM m = false by unfold bodyM; rw [h1, h2, h3, h4]; rfl)
  clear rl rx rs c1 c2 c3 c4
  go_wp2_with (first | (go_at_call 27; refine (haslabel_any _ _).mono ?_; rintro e wh ⟨rfl, rfl⟩; rw [h1]) | (go_at_call 29; refine (hasevent_any _ _).mono ?_; rintro e wh ⟨rfl, rfl⟩; rw [h2]) | (go_at_call 31; refine (hasseller_any _ _).mono ?_; rintro e wh ⟨rfl, rfl⟩; rw [h3]) | (go_at_call 32; refine (hasstance_any _ _).mono ?_; rintro e wh ⟨rfl, rfl⟩; rw [h4]))
  go_ret
  exact ⟨by first | (rw [HBD.out]; done) | (rw [HBD.out]; rfl), HF.out⟩
set_option maxRecDepth 20000 in
set_option maxHeartbeats 4000000 in
theorem right_lab (m : Ms) (W : World) (h : sameM m (partsM m) = true) (h1 : hl m.k = true) (h2 : hev m.k = false) (h3 : hse m.k = false) (h4 : hst m.k = false) : Calls Try.prog 24 #[.agg m.cells.toArray] W fun e W' => e = .returned (.bool (bodyM m)) ∧ Below W.heap.size W W' := by
  have bA := Blk.new W 50 m.cells.toArray
  have hB0 := (Below.refl W.heap.size W).alloc (Nat.le_refl _) (.cells m.cells.toArray 50)
  have ro := bA.range
  have HS := Lib.hid (same_any m (partsM m))
  rw [h] at HS
  clear h
  go_enter Try.func24, Try.ntmps24
  go_upto_region 1 with fail
  obtain ⟨W1, hw⟩ : ∃ W1, W1 = W.alloc (.cells m.cells.toArray 50) := ⟨_, rfl⟩
  rw [← hw] at hB0 ro bA ⊢
  clear hw
  refine wp_region_tree (S := (fun W' => Below W1.heap.size W1 W' ∧ W'.rangeAt W.heap.size 0 m.cells)) (.take 0 (.take 1 (.one 2 (.one 3 (.take 4 .nil))))) 9999 (by kernel_rfl) (by kernel_rfl) (by kernel_rfl) (by kernel_rfl) (by kernel_rfl) (fun _ _ d _ _ h => by cases d <;> exact h) ⟨(Below.refl _ _).drew, ro⟩ (fun hHeld => ?_); simp only [Tree.map, List.getElem?_toArray, List.getElem?_cons_zero, List.getElem?_cons_succ]
  (repeat (first | (refine wpTree.take (v := undef) (Or.inr ⟨by rfl, rfl⟩) ?_; simp only [Act.put, List.setIfInBounds_toArray, List.set_cons_zero, List.set_cons_succ]) | (refine wpTree.take (v := .agg (Ms.cells ?_).toArray) (yieldsIf_load_mid rfl 50 _ rfl _ _ rfl (Ms.cells _) _ ?_ Try.underlying50 rfl (msinfo _)) ?_; rotate_left; (focus (intro _ hS; exact hS.2)); simp only [Act.put, List.setIfInBounds_toArray, List.set_cons_zero, List.set_cons_succ]) | (refine wpTree.take (v := ?_) (Or.inl ⟨by rfl, ?_⟩) ?_; rotate_left; (focus (intro _ hS; (try dsimp only at hS); go_split_ands; (try subst hS); go_simp; (try (with_reducible rfl)); done)); simp only [Act.put, List.setIfInBounds_toArray, List.set_cons_zero, List.set_cons_succ])))
  refine wpTree.one (fun K hK => ?_)
  go_simp
  go_at_call 42
  refine (parts_any m _).mono ?_
  rintro e W2 ⟨rfl, hb⟩
  have h2 : Below W1.heap.size W1 W2 := hHeld.1.trans (hb.mono hHeld.1.size)
  have r2 := range_next hb hHeld.2
  refine hK.out _ _ ⟨h2, r2⟩ (fun _ => ?_)
  clear hK K hb hHeld
  (try simp only [Act.put, List.setIfInBounds_toArray, List.set_cons_zero, List.set_cons_succ])
  refine wpTree.one (fun K hK => ?_)
  go_simp
  go_at_call 21
  refine (HS.out _).mono ?_
  rintro e W3 ⟨rfl, hb⟩
  have h3 : Below W1.heap.size W1 W3 := h2.trans (hb.mono h2.size)
  have r3 := range_next hb r2
  refine hK.out _ _ ⟨h3, r3⟩ (fun _ => ?_)
  clear hK K hb r2
  (try simp only [Act.put, List.setIfInBounds_toArray, List.set_cons_zero, List.set_cons_succ])
  (repeat (first | (refine wpTree.take (v := undef) (Or.inr ⟨by rfl, rfl⟩) ?_; simp only [Act.put, List.setIfInBounds_toArray, List.set_cons_zero, List.set_cons_succ]) | (refine wpTree.take (v := ?_) (Or.inl ⟨by rfl, ?_⟩) ?_; rotate_left; (focus (intro _ hS; (try dsimp only at hS); go_split_ands; (try subst hS); go_simp; (try (with_reducible rfl)); done)); simp only [Act.put, List.setIfInBounds_toArray, List.set_cons_zero, List.set_cons_succ])))
  refine wpTree.done ?_
  have HF := Lib.hid (hB0.trans (h3.mono hB0.size))
  obtain ⟨_, rl, rx, rs, c0, c1, c2, c3, c4⟩ := ms_all (bA.next h3)
  clear hB0 h2 h3 bA ro r3 HS
  have HBD := Lib.hid (show bodyM m = rightL m.l by unfold bodyM; rw [h1]; rfl)
  clear rx rs c1 c2 c3 c4
  go_wp2_with (first | (go_at_call 27; refine (haslabel_any _ _).mono ?_; rintro e wh ⟨rfl, rfl⟩; rw [h1]) | (go_at_call 29; refine (hasevent_any _ _).mono ?_; rintro e wh ⟨rfl, rfl⟩; rw [h2]) | (go_at_call 31; refine (hasseller_any _ _).mono ?_; rintro e wh ⟨rfl, rfl⟩; rw [h3]) | (go_at_call 32; refine (hasstance_any _ _).mono ?_; rintro e wh ⟨rfl, rfl⟩; rw [h4]) | (refine wpList_load_midg (by rfl) 27 _ rfl _ _ rfl (Lab.cells ?_) _ ?_ Try.underlying27 rfl (linfo _) ?_; rotate_left; (focus assumption)) | (go_at_call 43; refine (lright_any m.l _).mono ?_; rintro e w4 ⟨rfl, hb⟩; have HF4 := Lib.hid (HF.out.trans (hb.mono HF.out.size)); clear hb rl c0 HF))
  go_ret
  exact ⟨by first | (rw [HBD.out]; done) | (rw [HBD.out]; rfl), HF4.out⟩
set_option maxRecDepth 20000 in
set_option maxHeartbeats 4000000 in
theorem right_ev (m : Ms) (W : World) (h : sameM m (partsM m) = true) (h1 : hl m.k = false) (h2 : hev m.k = true) (h3 : hse m.k = false) (h4 : hst m.k = false) : Calls Try.prog 24 #[.agg m.cells.toArray] W fun e W' => e = .returned (.bool (bodyM m)) ∧ Below W.heap.size W W' := by
  have bA := Blk.new W 50 m.cells.toArray
  have hB0 := (Below.refl W.heap.size W).alloc (Nat.le_refl _) (.cells m.cells.toArray 50)
  have ro := bA.range
  have HS := Lib.hid (same_any m (partsM m))
  rw [h] at HS
  clear h
  go_enter Try.func24, Try.ntmps24
  go_upto_region 1 with fail
  obtain ⟨W1, hw⟩ : ∃ W1, W1 = W.alloc (.cells m.cells.toArray 50) := ⟨_, rfl⟩
  rw [← hw] at hB0 ro bA ⊢
  clear hw
  refine wp_region_tree (S := (fun W' => Below W1.heap.size W1 W' ∧ W'.rangeAt W.heap.size 0 m.cells)) (.take 0 (.take 1 (.one 2 (.one 3 (.take 4 .nil))))) 9999 (by kernel_rfl) (by kernel_rfl) (by kernel_rfl) (by kernel_rfl) (by kernel_rfl) (fun _ _ d _ _ h => by cases d <;> exact h) ⟨(Below.refl _ _).drew, ro⟩ (fun hHeld => ?_); simp only [Tree.map, List.getElem?_toArray, List.getElem?_cons_zero, List.getElem?_cons_succ]
  (repeat (first | (refine wpTree.take (v := undef) (Or.inr ⟨by rfl, rfl⟩) ?_; simp only [Act.put, List.setIfInBounds_toArray, List.set_cons_zero, List.set_cons_succ]) | (refine wpTree.take (v := .agg (Ms.cells ?_).toArray) (yieldsIf_load_mid rfl 50 _ rfl _ _ rfl (Ms.cells _) _ ?_ Try.underlying50 rfl (msinfo _)) ?_; rotate_left; (focus (intro _ hS; exact hS.2)); simp only [Act.put, List.setIfInBounds_toArray, List.set_cons_zero, List.set_cons_succ]) | (refine wpTree.take (v := ?_) (Or.inl ⟨by rfl, ?_⟩) ?_; rotate_left; (focus (intro _ hS; (try dsimp only at hS); go_split_ands; (try subst hS); go_simp; (try (with_reducible rfl)); done)); simp only [Act.put, List.setIfInBounds_toArray, List.set_cons_zero, List.set_cons_succ])))
  refine wpTree.one (fun K hK => ?_)
  go_simp
  go_at_call 42
  refine (parts_any m _).mono ?_
  rintro e W2 ⟨rfl, hb⟩
  have h2 : Below W1.heap.size W1 W2 := hHeld.1.trans (hb.mono hHeld.1.size)
  have r2 := range_next hb hHeld.2
  refine hK.out _ _ ⟨h2, r2⟩ (fun _ => ?_)
  clear hK K hb hHeld
  (try simp only [Act.put, List.setIfInBounds_toArray, List.set_cons_zero, List.set_cons_succ])
  refine wpTree.one (fun K hK => ?_)
  go_simp
  go_at_call 21
  refine (HS.out _).mono ?_
  rintro e W3 ⟨rfl, hb⟩
  have h3 : Below W1.heap.size W1 W3 := h2.trans (hb.mono h2.size)
  have r3 := range_next hb r2
  refine hK.out _ _ ⟨h3, r3⟩ (fun _ => ?_)
  clear hK K hb r2
  (try simp only [Act.put, List.setIfInBounds_toArray, List.set_cons_zero, List.set_cons_succ])
  (repeat (first | (refine wpTree.take (v := undef) (Or.inr ⟨by rfl, rfl⟩) ?_; simp only [Act.put, List.setIfInBounds_toArray, List.set_cons_zero, List.set_cons_succ]) | (refine wpTree.take (v := ?_) (Or.inl ⟨by rfl, ?_⟩) ?_; rotate_left; (focus (intro _ hS; (try dsimp only at hS); go_split_ands; (try subst hS); go_simp; (try (with_reducible rfl)); done)); simp only [Act.put, List.setIfInBounds_toArray, List.set_cons_zero, List.set_cons_succ])))
  refine wpTree.done ?_
  have HF := Lib.hid (hB0.trans (h3.mono hB0.size))
  obtain ⟨_, rl, rx, rs, c0, c1, c2, c3, c4⟩ := ms_all (bA.next h3)
  clear hB0 h2 h3 bA ro r3 HS
  have HBD := Lib.hid (show bodyM m = rightE m.x by unfold bodyM; rw [h1, h2]; rfl)
  clear rl rs c1 c2 c3 c4
  go_wp2_with (first | (go_at_call 27; refine (haslabel_any _ _).mono ?_; rintro e wh ⟨rfl, rfl⟩; rw [h1]) | (go_at_call 29; refine (hasevent_any _ _).mono ?_; rintro e wh ⟨rfl, rfl⟩; rw [h2]) | (go_at_call 31; refine (hasseller_any _ _).mono ?_; rintro e wh ⟨rfl, rfl⟩; rw [h3]) | (go_at_call 32; refine (hasstance_any _ _).mono ?_; rintro e wh ⟨rfl, rfl⟩; rw [h4]) | (refine wpList_load_midg (by rfl) 48 _ rfl _ _ rfl (Ev.cells ?_) _ ?_ Try.underlying48 rfl (einfo _) ?_; rotate_left; (focus assumption)) | (go_at_call 44; refine (eright_any m.x _).mono ?_; rintro e w4 ⟨rfl, hb⟩; have HF4 := Lib.hid (HF.out.trans (hb.mono HF.out.size)); clear hb rx c0 HF))
  go_ret
  exact ⟨by first | (rw [HBD.out]; done) | (rw [HBD.out]; rfl), HF4.out⟩
set_option maxRecDepth 20000 in
set_option maxHeartbeats 4000000 in
theorem right_sel (m : Ms) (W : World) (h : sameM m (partsM m) = true) (h1 : hl m.k = false) (h2 : hev m.k = false) (h3 : hse m.k = true) (h4 : hst m.k = false) : Calls Try.prog 24 #[.agg m.cells.toArray] W fun e W' => e = .returned (.bool (bodyM m)) ∧ Below W.heap.size W W' := by
  have bA := Blk.new W 50 m.cells.toArray
  have hB0 := (Below.refl W.heap.size W).alloc (Nat.le_refl _) (.cells m.cells.toArray 50)
  have ro := bA.range
  have HS := Lib.hid (same_any m (partsM m))
  rw [h] at HS
  clear h
  go_enter Try.func24, Try.ntmps24
  go_upto_region 1 with fail
  obtain ⟨W1, hw⟩ : ∃ W1, W1 = W.alloc (.cells m.cells.toArray 50) := ⟨_, rfl⟩
  rw [← hw] at hB0 ro bA ⊢
  clear hw
  refine wp_region_tree (S := (fun W' => Below W1.heap.size W1 W' ∧ W'.rangeAt W.heap.size 0 m.cells)) (.take 0 (.take 1 (.one 2 (.one 3 (.take 4 .nil))))) 9999 (by kernel_rfl) (by kernel_rfl) (by kernel_rfl) (by kernel_rfl) (by kernel_rfl) (fun _ _ d _ _ h => by cases d <;> exact h) ⟨(Below.refl _ _).drew, ro⟩ (fun hHeld => ?_); simp only [Tree.map, List.getElem?_toArray, List.getElem?_cons_zero, List.getElem?_cons_succ]
  (repeat (first | (refine wpTree.take (v := undef) (Or.inr ⟨by rfl, rfl⟩) ?_; simp only [Act.put, List.setIfInBounds_toArray, List.set_cons_zero, List.set_cons_succ]) | (refine wpTree.take (v := .agg (Ms.cells ?_).toArray) (yieldsIf_load_mid rfl 50 _ rfl _ _ rfl (Ms.cells _) _ ?_ Try.underlying50 rfl (msinfo _)) ?_; rotate_left; (focus (intro _ hS; exact hS.2)); simp only [Act.put, List.setIfInBounds_toArray, List.set_cons_zero, List.set_cons_succ]) | (refine wpTree.take (v := ?_) (Or.inl ⟨by rfl, ?_⟩) ?_; rotate_left; (focus (intro _ hS; (try dsimp only at hS); go_split_ands; (try subst hS); go_simp; (try (with_reducible rfl)); done)); simp only [Act.put, List.setIfInBounds_toArray, List.set_cons_zero, List.set_cons_succ])))
  refine wpTree.one (fun K hK => ?_)
  go_simp
  go_at_call 42
  refine (parts_any m _).mono ?_
  rintro e W2 ⟨rfl, hb⟩
  have h2 : Below W1.heap.size W1 W2 := hHeld.1.trans (hb.mono hHeld.1.size)
  have r2 := range_next hb hHeld.2
  refine hK.out _ _ ⟨h2, r2⟩ (fun _ => ?_)
  clear hK K hb hHeld
  (try simp only [Act.put, List.setIfInBounds_toArray, List.set_cons_zero, List.set_cons_succ])
  refine wpTree.one (fun K hK => ?_)
  go_simp
  go_at_call 21
  refine (HS.out _).mono ?_
  rintro e W3 ⟨rfl, hb⟩
  have h3 : Below W1.heap.size W1 W3 := h2.trans (hb.mono h2.size)
  have r3 := range_next hb r2
  refine hK.out _ _ ⟨h3, r3⟩ (fun _ => ?_)
  clear hK K hb r2
  (try simp only [Act.put, List.setIfInBounds_toArray, List.set_cons_zero, List.set_cons_succ])
  (repeat (first | (refine wpTree.take (v := undef) (Or.inr ⟨by rfl, rfl⟩) ?_; simp only [Act.put, List.setIfInBounds_toArray, List.set_cons_zero, List.set_cons_succ]) | (refine wpTree.take (v := ?_) (Or.inl ⟨by rfl, ?_⟩) ?_; rotate_left; (focus (intro _ hS; (try dsimp only at hS); go_split_ands; (try subst hS); go_simp; (try (with_reducible rfl)); done)); simp only [Act.put, List.setIfInBounds_toArray, List.set_cons_zero, List.set_cons_succ])))
  refine wpTree.done ?_
  have HF := Lib.hid (hB0.trans (h3.mono hB0.size))
  obtain ⟨_, rl, rx, rs, c0, c1, c2, c3, c4⟩ := ms_all (bA.next h3)
  clear hB0 h2 h3 bA ro r3 HS
  have HBD := Lib.hid (show bodyM m = (withinB m.se 1 12 && withinB m.co 0 200) by unfold bodyM; rw [h1, h2, h3]; rfl)
  clear rl rx rs c3 c4
  cases hs : withinB m.se 1 12 with
  | false =>
    go_wp2_with (first | (go_at_call 27; refine (haslabel_any _ _).mono ?_; rintro e wh ⟨rfl, rfl⟩; rw [h1]) | (go_at_call 29; refine (hasevent_any _ _).mono ?_; rintro e wh ⟨rfl, rfl⟩; rw [h2]) | (go_at_call 31; refine (hasseller_any _ _).mono ?_; rintro e wh ⟨rfl, rfl⟩; rw [h3]) | (go_at_call 32; refine (hasstance_any _ _).mono ?_; rintro e wh ⟨rfl, rfl⟩; rw [h4]) | (go_at_call 45; refine (within_any _ _ _ _).mono ?_; rintro e wv ⟨rfl, rfl⟩; (try rw [hs]); (try rw [hq])))
    go_ret
    exact ⟨by rw [HBD.out, hs]; rfl, HF.out⟩
  | true =>
    go_wp2_with (first | (go_at_call 27; refine (haslabel_any _ _).mono ?_; rintro e wh ⟨rfl, rfl⟩; rw [h1]) | (go_at_call 29; refine (hasevent_any _ _).mono ?_; rintro e wh ⟨rfl, rfl⟩; rw [h2]) | (go_at_call 31; refine (hasseller_any _ _).mono ?_; rintro e wh ⟨rfl, rfl⟩; rw [h3]) | (go_at_call 32; refine (hasstance_any _ _).mono ?_; rintro e wh ⟨rfl, rfl⟩; rw [h4]) | (go_at_call 45; refine (within_any _ _ _ _).mono ?_; rintro e wv ⟨rfl, rfl⟩; (try rw [hs]); (try rw [hq])))
    go_ret
    exact ⟨by rw [HBD.out, hs]; rfl, HF.out⟩
set_option maxRecDepth 20000 in
set_option maxHeartbeats 4000000 in
theorem right_st (m : Ms) (W : World) (h : sameM m (partsM m) = true) (h1 : hl m.k = false) (h2 : hev m.k = false) (h3 : hse m.k = false) (h4 : hst m.k = true) : Calls Try.prog 24 #[.agg m.cells.toArray] W fun e W' => e = .returned (.bool (bodyM m)) ∧ Below W.heap.size W W' := by
  have bA := Blk.new W 50 m.cells.toArray
  have hB0 := (Below.refl W.heap.size W).alloc (Nat.le_refl _) (.cells m.cells.toArray 50)
  have ro := bA.range
  have HS := Lib.hid (same_any m (partsM m))
  rw [h] at HS
  clear h
  go_enter Try.func24, Try.ntmps24
  go_upto_region 1 with fail
  obtain ⟨W1, hw⟩ : ∃ W1, W1 = W.alloc (.cells m.cells.toArray 50) := ⟨_, rfl⟩
  rw [← hw] at hB0 ro bA ⊢
  clear hw
  refine wp_region_tree (S := (fun W' => Below W1.heap.size W1 W' ∧ W'.rangeAt W.heap.size 0 m.cells)) (.take 0 (.take 1 (.one 2 (.one 3 (.take 4 .nil))))) 9999 (by kernel_rfl) (by kernel_rfl) (by kernel_rfl) (by kernel_rfl) (by kernel_rfl) (fun _ _ d _ _ h => by cases d <;> exact h) ⟨(Below.refl _ _).drew, ro⟩ (fun hHeld => ?_); simp only [Tree.map, List.getElem?_toArray, List.getElem?_cons_zero, List.getElem?_cons_succ]
  (repeat (first | (refine wpTree.take (v := undef) (Or.inr ⟨by rfl, rfl⟩) ?_; simp only [Act.put, List.setIfInBounds_toArray, List.set_cons_zero, List.set_cons_succ]) | (refine wpTree.take (v := .agg (Ms.cells ?_).toArray) (yieldsIf_load_mid rfl 50 _ rfl _ _ rfl (Ms.cells _) _ ?_ Try.underlying50 rfl (msinfo _)) ?_; rotate_left; (focus (intro _ hS; exact hS.2)); simp only [Act.put, List.setIfInBounds_toArray, List.set_cons_zero, List.set_cons_succ]) | (refine wpTree.take (v := ?_) (Or.inl ⟨by rfl, ?_⟩) ?_; rotate_left; (focus (intro _ hS; (try dsimp only at hS); go_split_ands; (try subst hS); go_simp; (try (with_reducible rfl)); done)); simp only [Act.put, List.setIfInBounds_toArray, List.set_cons_zero, List.set_cons_succ])))
  refine wpTree.one (fun K hK => ?_)
  go_simp
  go_at_call 42
  refine (parts_any m _).mono ?_
  rintro e W2 ⟨rfl, hb⟩
  have h2 : Below W1.heap.size W1 W2 := hHeld.1.trans (hb.mono hHeld.1.size)
  have r2 := range_next hb hHeld.2
  refine hK.out _ _ ⟨h2, r2⟩ (fun _ => ?_)
  clear hK K hb hHeld
  (try simp only [Act.put, List.setIfInBounds_toArray, List.set_cons_zero, List.set_cons_succ])
  refine wpTree.one (fun K hK => ?_)
  go_simp
  go_at_call 21
  refine (HS.out _).mono ?_
  rintro e W3 ⟨rfl, hb⟩
  have h3 : Below W1.heap.size W1 W3 := h2.trans (hb.mono h2.size)
  have r3 := range_next hb r2
  refine hK.out _ _ ⟨h3, r3⟩ (fun _ => ?_)
  clear hK K hb r2
  (try simp only [Act.put, List.setIfInBounds_toArray, List.set_cons_zero, List.set_cons_succ])
  (repeat (first | (refine wpTree.take (v := undef) (Or.inr ⟨by rfl, rfl⟩) ?_; simp only [Act.put, List.setIfInBounds_toArray, List.set_cons_zero, List.set_cons_succ]) | (refine wpTree.take (v := ?_) (Or.inl ⟨by rfl, ?_⟩) ?_; rotate_left; (focus (intro _ hS; (try dsimp only at hS); go_split_ands; (try subst hS); go_simp; (try (with_reducible rfl)); done)); simp only [Act.put, List.setIfInBounds_toArray, List.set_cons_zero, List.set_cons_succ])))
  refine wpTree.done ?_
  have HF := Lib.hid (hB0.trans (h3.mono hB0.size))
  obtain ⟨_, rl, rx, rs, c0, c1, c2, c3, c4⟩ := ms_all (bA.next h3)
  clear hB0 h2 h3 bA ro r3 HS
  have HBD := Lib.hid (show bodyM m = (withinB m.ca 1 12 && withinB m.ro 1 21 && rightS m.s) by unfold bodyM; rw [h1, h2, h3, h4]; rfl)
  clear rl rx c1 c2
  cases hs : withinB m.ca 1 12 with
  | false =>
    go_wp2_with (first | (go_at_call 27; refine (haslabel_any _ _).mono ?_; rintro e wh ⟨rfl, rfl⟩; rw [h1]) | (go_at_call 29; refine (hasevent_any _ _).mono ?_; rintro e wh ⟨rfl, rfl⟩; rw [h2]) | (go_at_call 31; refine (hasseller_any _ _).mono ?_; rintro e wh ⟨rfl, rfl⟩; rw [h3]) | (go_at_call 32; refine (hasstance_any _ _).mono ?_; rintro e wh ⟨rfl, rfl⟩; rw [h4]) | (go_at_call 45; refine (within_any _ _ _ _).mono ?_; rintro e wv ⟨rfl, rfl⟩; (try rw [hs]); (try rw [hq])))
    go_ret
    exact ⟨by rw [HBD.out, hs]; rfl, HF.out⟩
  | true =>
    cases hq : withinB m.ro 1 21 with
    | false =>
      go_wp2_with (first | (go_at_call 27; refine (haslabel_any _ _).mono ?_; rintro e wh ⟨rfl, rfl⟩; rw [h1]) | (go_at_call 29; refine (hasevent_any _ _).mono ?_; rintro e wh ⟨rfl, rfl⟩; rw [h2]) | (go_at_call 31; refine (hasseller_any _ _).mono ?_; rintro e wh ⟨rfl, rfl⟩; rw [h3]) | (go_at_call 32; refine (hasstance_any _ _).mono ?_; rintro e wh ⟨rfl, rfl⟩; rw [h4]) | (go_at_call 45; refine (within_any _ _ _ _).mono ?_; rintro e wv ⟨rfl, rfl⟩; (try rw [hs]); (try rw [hq])))
      go_ret
      exact ⟨by rw [HBD.out, hs, hq]; rfl, HF.out⟩
    | true =>
      go_wp2_with (first | (go_at_call 27; refine (haslabel_any _ _).mono ?_; rintro e wh ⟨rfl, rfl⟩; rw [h1]) | (go_at_call 29; refine (hasevent_any _ _).mono ?_; rintro e wh ⟨rfl, rfl⟩; rw [h2]) | (go_at_call 31; refine (hasseller_any _ _).mono ?_; rintro e wh ⟨rfl, rfl⟩; rw [h3]) | (go_at_call 32; refine (hasstance_any _ _).mono ?_; rintro e wh ⟨rfl, rfl⟩; rw [h4]) | (go_at_call 45; refine (within_any _ _ _ _).mono ?_; rintro e wv ⟨rfl, rfl⟩; (try rw [hs]); (try rw [hq])) | (refine wpList_load_midg (by rfl) 33 _ rfl _ _ rfl (St.cells ?_) _ ?_ Try.underlying33 rfl (stinfo _) ?_; rotate_left; (focus assumption)) | (go_at_call 46; refine (rightstance_any m.s _).mono ?_; rintro e w4 ⟨rfl, hb⟩; have HF4 := Lib.hid (HF.out.trans (hb.mono HF.out.size)); clear hb rs c0 HF))
      go_ret
      exact ⟨by rw [HBD.out, hs, hq]; rfl, HF4.out⟩
theorem right_any (m : Ms) (W : World) : Calls Try.prog 24 #[.agg m.cells.toArray] W fun e W' => e = .returned (.bool (rightM m)) ∧ Below W.heap.size W W' := by
  unfold rightM
  cases h : sameM m (partsM m) with
  | false => rw [Bool.false_and]; exact right_off m W h
  | true =>
    rw [Bool.true_and]
    rcases kd_any m.k with ⟨_, h1, h2, h3, h4, h5⟩ | ⟨_, h1, h2, h3, h4, h5⟩ | ⟨_, h1, h2, h3, h4, h5⟩ | ⟨_, h1, h2, h3, h4, h5⟩ | ⟨_, h1, h2, h3, h4, h5⟩ | ⟨_, h1, h2, h3, h4, h5⟩
    · exact right_lab m W h h1 h2 h3 h4
    · exact right_ev m W h h1 h2 h3 h4
    · exact right_sel m W h h1 h2 h3 h4
    · exact right_sel m W h h1 h2 h3 h4
    · exact right_st m W h h1 h2 h3 h4
    · exact right_no m W h h1 h2 h3 h4
end Mg
end Go.Proofs.Ytkigaclcmodjaaa

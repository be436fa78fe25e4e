/-
The document's inputs: may one be?
The document's inputs: may one be? whole.
The document's inputs: read of any bytes.
-/
import Derived.Test.YtgnfachjobohoaaGreatInR2b
namespace Go.Proofs.YtgnfachjobohoaaGreat
open Go.RowKit
set_option linter.unusedSimpArgs false
set_option linter.unusedVariables false
namespace In
set_option maxRecDepth 20000 in
set_option maxHeartbeats 8000000 in
theorem rr_no (m : Iv) (h256 : ∀ y ∈ m.x.p.bs, y < 256) (W : World) (e1 : (m.k == 1) = false) (e2 : (m.k == 2) = false) (e3 : (m.k == 3) = false) (e4 : (m.k == 4) = false) (e5 : (m.k == 5) = false) (e6 : (m.k == 6) = false) : Calls Tryz.prog 12 #[.agg m.rc.toArray] W fun e W' => e = .returned (.bool (false)) ∧ Below W.heap.size W W' := by
  have bA := Blk.new W 39 m.rc.toArray
  have hB0 := (Below.refl W.heap.size W).alloc (Nat.le_refl _) (.cells m.rc.toArray 39)
  obtain ⟨w1, hw1⟩ : ∃ w1, w1 = W.alloc (.cells m.rc.toArray 39) := ⟨_, rfl⟩
  have hs1 : w1.heap.size = W.heap.size + 1 := by rw [hw1]; simp
  rw [← hw1] at bA hB0
  have HW1 := Lib.hid hw1
  have HA := Lib.hid bA
  have HB := Lib.hid hB0
  have HS1 := Lib.hid hs1
  have H256 := Lib.hid h256
  obtain ⟨-, -, -, -, c0, c1, c2, c3, ct⟩ := riv_all bA
  clear bA hB0 hw1 hs1 h256
  go_enter Tryz.func12, Tryz.ntmps12
  go_upto_region 1 with fail
  rw [← HW1.out]
  clear HW1
  go_upto_region 2 with (first | (refine wpList_build_lit (zI m.k).rc.toArray rfl 39 _ rfl (built_zIr m.k) ?_) | (refine wpList_store_blk rfl 39 _ _ rfl w1.heap.size 39 zrinA (zI m.k).rc.toArray rfl rfl (Blk.new' rfl) (rivinfoA _) (zrin_siz _) (riv_one _) ?_; intro hy))
  have hbn : Below w1.heap.size w1 ((w1.alloc (.cells zrinA 39)).setRow w1.heap.size (zI m.k).rc.toArray) := below_setRow ((Below.refl _ _).alloc (Nat.le_refl _) _) (Nat.le_refl _) _
  obtain ⟨w2, hw2⟩ : ∃ w2, w2 = (w1.alloc (.cells zrinA 39)).setRow w1.heap.size (zI m.k).rc.toArray := ⟨_, rfl⟩
  rw [← hw2] at hbn hy ⊢
  obtain ⟨p, hp⟩ : ∃ p, p = w1.heap.size := ⟨_, rfl⟩
  rw [← hp] at hy ⊢
  have hpS : p = W.heap.size + 1 := hp.trans HS1.out
  have HA2 := Lib.hid (HA.out.next hbn)
  have HB2 := Lib.hid (HB.out.trans (hbn.mono HB.out.size))
  have HY := Lib.hid hy
  have hp1 : W.heap.size < p := by omega
  clear hw2 hp hbn hy HA HB HS1 hpS c0 c1 c2 c3 ct
  obtain ⟨-, -, -, -, -, -, c2, -, -⟩ := riv_all HA2.out
  (try simp only [Act.put, List.setIfInBounds_toArray, List.set_cons_zero, List.set_cons_succ])
  go_cut [4] from 9 to 16 (fun vx wx => vx = .bool (decide (0 < m.se) && decide (m.se < 13)) ∧ w2 = wx)
  case first =>
    cases hd1 : decide (0 < m.se) with
    | false =>
      go_wp2_with fail
      go_meet
      exact ⟨by simp [hd1], rfl⟩
    | true =>
      cases hd2 : decide (m.se < 13) with
      | false =>
        go_wp2_with fail
        go_meet
        exact ⟨by simp [hd1, hd2], rfl⟩
      | true =>
        go_wp2_with fail
        go_meet
        exact ⟨by simp [hd1, hd2], rfl⟩
  case rest =>
    obtain ⟨rfl, rfl⟩ := hcut
    obtain ⟨sl, hsl⟩ : ∃ sl, sl = (decide (0 < m.se) && decide (m.se < 13)) := ⟨_, rfl⟩
    rw [← hsl]
    have HSL := Lib.hid hsl
    clear hsl c2
    obtain ⟨-, -, -, -, c0, -, -, -, -⟩ := riv_all HA2.out
    go_wp2_with fail
    go_ret
    exact ⟨rfl, HB2.out⟩
set_option maxRecDepth 20000 in
set_option maxHeartbeats 8000000 in
theorem rr_sel2 (m : Iv) (h256 : ∀ y ∈ m.x.p.bs, y < 256) (W : World) (e1 : (m.k == 1) = false) (e2 : (m.k == 2) = true) (e3 : (m.k == 3) = false) (e4 : (m.k == 4) = false) (e5 : (m.k == 5) = false) (e6 : (m.k == 6) = false) : Calls Tryz.prog 12 #[.agg m.rc.toArray] W fun e W' => e = .returned (.bool ((decide (0 < m.se) && decide (m.se < 13)) && sameI m { zI m.k with se := m.se })) ∧ Below W.heap.size W W' := by
  have bA := Blk.new W 39 m.rc.toArray
  have hB0 := (Below.refl W.heap.size W).alloc (Nat.le_refl _) (.cells m.rc.toArray 39)
  obtain ⟨w1, hw1⟩ : ∃ w1, w1 = W.alloc (.cells m.rc.toArray 39) := ⟨_, rfl⟩
  have hs1 : w1.heap.size = W.heap.size + 1 := by rw [hw1]; simp
  rw [← hw1] at bA hB0
  have HW1 := Lib.hid hw1
  have HA := Lib.hid bA
  have HB := Lib.hid hB0
  have HS1 := Lib.hid hs1
  have H256 := Lib.hid h256
  obtain ⟨-, -, -, -, c0, c1, c2, c3, ct⟩ := riv_all bA
  clear bA hB0 hw1 hs1 h256
  go_enter Tryz.func12, Tryz.ntmps12
  go_upto_region 1 with fail
  rw [← HW1.out]
  clear HW1
  go_upto_region 2 with (first | (refine wpList_build_lit (zI m.k).rc.toArray rfl 39 _ rfl (built_zIr m.k) ?_) | (refine wpList_store_blk rfl 39 _ _ rfl w1.heap.size 39 zrinA (zI m.k).rc.toArray rfl rfl (Blk.new' rfl) (rivinfoA _) (zrin_siz _) (riv_one _) ?_; intro hy))
  have hbn : Below w1.heap.size w1 ((w1.alloc (.cells zrinA 39)).setRow w1.heap.size (zI m.k).rc.toArray) := below_setRow ((Below.refl _ _).alloc (Nat.le_refl _) _) (Nat.le_refl _) _
  obtain ⟨w2, hw2⟩ : ∃ w2, w2 = (w1.alloc (.cells zrinA 39)).setRow w1.heap.size (zI m.k).rc.toArray := ⟨_, rfl⟩
  rw [← hw2] at hbn hy ⊢
  obtain ⟨p, hp⟩ : ∃ p, p = w1.heap.size := ⟨_, rfl⟩
  rw [← hp] at hy ⊢
  have hpS : p = W.heap.size + 1 := hp.trans HS1.out
  have HA2 := Lib.hid (HA.out.next hbn)
  have HB2 := Lib.hid (HB.out.trans (hbn.mono HB.out.size))
  have HY := Lib.hid hy
  have hp1 : W.heap.size < p := by omega
  clear hw2 hp hbn hy HA HB HS1 hpS c0 c1 c2 c3 ct
  obtain ⟨-, -, -, -, -, -, c2, -, -⟩ := riv_all HA2.out
  (try simp only [Act.put, List.setIfInBounds_toArray, List.set_cons_zero, List.set_cons_succ])
  go_cut [4] from 9 to 16 (fun vx wx => vx = .bool (decide (0 < m.se) && decide (m.se < 13)) ∧ w2 = wx)
  case first =>
    cases hd1 : decide (0 < m.se) with
    | false =>
      go_wp2_with fail
      go_meet
      exact ⟨by simp [hd1], rfl⟩
    | true =>
      cases hd2 : decide (m.se < 13) with
      | false =>
        go_wp2_with fail
        go_meet
        exact ⟨by simp [hd1, hd2], rfl⟩
      | true =>
        go_wp2_with fail
        go_meet
        exact ⟨by simp [hd1, hd2], rfl⟩
  case rest =>
    obtain ⟨rfl, rfl⟩ := hcut
    obtain ⟨sl, hsl⟩ : ∃ sl, sl = (decide (0 < m.se) && decide (m.se < 13)) := ⟨_, rfl⟩
    rw [← hsl]
    have HSL := Lib.hid hsl
    clear hsl c2
    obtain ⟨-, -, -, -, c0, -, -, -, -⟩ := riv_all HA2.out
    go_upto_region 10 with fail
    clear c0
    have hbw2 : Below p w2 w2 := Below.refl _ _
    have hyw2 := HY.out
    obtain ⟨-, -, -, -, -, -, c2, -, -⟩ := riv_all HA2.out
    have hkA : w2.cell? ⟨p, 2, none⟩ = some (.int .i64 0) := (riv_all hyw2).2.2.2.2.2.2.1
    have hfA := hyw2.frozen 2
    go_upto_region 19 with fail
    obtain ⟨w3, hw⟩ : ∃ w3, w3 = w2.setCell ⟨p, 2, none⟩ (.int .i64 m.se) := ⟨_, rfl⟩
    have hbw3 : Below p w2 w3 := by rw [hw]; exact Below.setCell (p := ⟨p, 2, none⟩) hbw2 (Nat.le_refl _) _
    have hyw3 : Blk w3 p 39 (Iv.rc { zI m.k with se := m.se }).toArray := by rw [hw]; exact riv_setH hyw2 (by omega) rfl rfl rfl rfl rfl
    rw [← hw]
    clear hw hkA hfA
    clear c2
    have HZ := Lib.hid (show Blk w3 p 39 (Iv.rc { zI m.k with se := m.se }).toArray from hyw3)
    have HBF := Lib.hid (HB2.out.trans (hbw3.mono (Nat.le_of_lt hp1)))
    have HAF := Lib.hid (blk_below HA2.out hbw3 hp1)
    clear hbw3 hyw3 hbw2 hyw2 HA2 HB2 HY
    cases sl with
    | false =>
      go_wp2_with fail
      go_ret
      exact ⟨by rw [← HSL.out]; rfl, HBF.out⟩
    | true =>
      have rz := HZ.out.range
      have ra := HAF.out.range
      have hq := fun w => eq_rin m { zI m.k with se := m.se } H256.out (by intro y hy; cases hy) w
      go_wp2_with (first | (refine wpList_load_midg (by rfl) 39 _ rfl _ _ rfl (Iv.rc ?_) _ ?_ Tryz.underlying39 rfl (rivinfo _) ?_; rotate_left; (focus assumption)))
      go_ret
      exact ⟨by rw [← HSL.out]; first | rfl | simp, HBF.out⟩
set_option maxRecDepth 20000 in
set_option maxHeartbeats 8000000 in
theorem rr_sel4 (m : Iv) (h256 : ∀ y ∈ m.x.p.bs, y < 256) (W : World) (e1 : (m.k == 1) = false) (e2 : (m.k == 2) = false) (e3 : (m.k == 3) = false) (e4 : (m.k == 4) = true) (e5 : (m.k == 5) = false) (e6 : (m.k == 6) = false) : Calls Tryz.prog 12 #[.agg m.rc.toArray] W fun e W' => e = .returned (.bool ((decide (0 < m.se) && decide (m.se < 13)) && sameI m { zI m.k with se := m.se })) ∧ Below W.heap.size W W' := by
  have bA := Blk.new W 39 m.rc.toArray
  have hB0 := (Below.refl W.heap.size W).alloc (Nat.le_refl _) (.cells m.rc.toArray 39)
  obtain ⟨w1, hw1⟩ : ∃ w1, w1 = W.alloc (.cells m.rc.toArray 39) := ⟨_, rfl⟩
  have hs1 : w1.heap.size = W.heap.size + 1 := by rw [hw1]; simp
  rw [← hw1] at bA hB0
  have HW1 := Lib.hid hw1
  have HA := Lib.hid bA
  have HB := Lib.hid hB0
  have HS1 := Lib.hid hs1
  have H256 := Lib.hid h256
  obtain ⟨-, -, -, -, c0, c1, c2, c3, ct⟩ := riv_all bA
  clear bA hB0 hw1 hs1 h256
  go_enter Tryz.func12, Tryz.ntmps12
  go_upto_region 1 with fail
  rw [← HW1.out]
  clear HW1
  go_upto_region 2 with (first | (refine wpList_build_lit (zI m.k).rc.toArray rfl 39 _ rfl (built_zIr m.k) ?_) | (refine wpList_store_blk rfl 39 _ _ rfl w1.heap.size 39 zrinA (zI m.k).rc.toArray rfl rfl (Blk.new' rfl) (rivinfoA _) (zrin_siz _) (riv_one _) ?_; intro hy))
  have hbn : Below w1.heap.size w1 ((w1.alloc (.cells zrinA 39)).setRow w1.heap.size (zI m.k).rc.toArray) := below_setRow ((Below.refl _ _).alloc (Nat.le_refl _) _) (Nat.le_refl _) _
  obtain ⟨w2, hw2⟩ : ∃ w2, w2 = (w1.alloc (.cells zrinA 39)).setRow w1.heap.size (zI m.k).rc.toArray := ⟨_, rfl⟩
  rw [← hw2] at hbn hy ⊢
  obtain ⟨p, hp⟩ : ∃ p, p = w1.heap.size := ⟨_, rfl⟩
  rw [← hp] at hy ⊢
  have hpS : p = W.heap.size + 1 := hp.trans HS1.out
  have HA2 := Lib.hid (HA.out.next hbn)
  have HB2 := Lib.hid (HB.out.trans (hbn.mono HB.out.size))
  have HY := Lib.hid hy
  have hp1 : W.heap.size < p := by omega
  clear hw2 hp hbn hy HA HB HS1 hpS c0 c1 c2 c3 ct
  obtain ⟨-, -, -, -, -, -, c2, -, -⟩ := riv_all HA2.out
  (try simp only [Act.put, List.setIfInBounds_toArray, List.set_cons_zero, List.set_cons_succ])
  go_cut [4] from 9 to 16 (fun vx wx => vx = .bool (decide (0 < m.se) && decide (m.se < 13)) ∧ w2 = wx)
  case first =>
    cases hd1 : decide (0 < m.se) with
    | false =>
      go_wp2_with fail
      go_meet
      exact ⟨by simp [hd1], rfl⟩
    | true =>
      cases hd2 : decide (m.se < 13) with
      | false =>
        go_wp2_with fail
        go_meet
        exact ⟨by simp [hd1, hd2], rfl⟩
      | true =>
        go_wp2_with fail
        go_meet
        exact ⟨by simp [hd1, hd2], rfl⟩
  case rest =>
    obtain ⟨rfl, rfl⟩ := hcut
    obtain ⟨sl, hsl⟩ : ∃ sl, sl = (decide (0 < m.se) && decide (m.se < 13)) := ⟨_, rfl⟩
    rw [← hsl]
    have HSL := Lib.hid hsl
    clear hsl c2
    obtain ⟨-, -, -, -, c0, -, -, -, -⟩ := riv_all HA2.out
    go_upto_region 10 with fail
    clear c0
    have hbw2 : Below p w2 w2 := Below.refl _ _
    have hyw2 := HY.out
    obtain ⟨-, -, -, -, -, -, c2, -, -⟩ := riv_all HA2.out
    have hkA : w2.cell? ⟨p, 2, none⟩ = some (.int .i64 0) := (riv_all hyw2).2.2.2.2.2.2.1
    have hfA := hyw2.frozen 2
    go_upto_region 19 with fail
    obtain ⟨w3, hw⟩ : ∃ w3, w3 = w2.setCell ⟨p, 2, none⟩ (.int .i64 m.se) := ⟨_, rfl⟩
    have hbw3 : Below p w2 w3 := by rw [hw]; exact Below.setCell (p := ⟨p, 2, none⟩) hbw2 (Nat.le_refl _) _
    have hyw3 : Blk w3 p 39 (Iv.rc { zI m.k with se := m.se }).toArray := by rw [hw]; exact riv_setH hyw2 (by omega) rfl rfl rfl rfl rfl
    rw [← hw]
    clear hw hkA hfA
    clear c2
    have HZ := Lib.hid (show Blk w3 p 39 (Iv.rc { zI m.k with se := m.se }).toArray from hyw3)
    have HBF := Lib.hid (HB2.out.trans (hbw3.mono (Nat.le_of_lt hp1)))
    have HAF := Lib.hid (blk_below HA2.out hbw3 hp1)
    clear hbw3 hyw3 hbw2 hyw2 HA2 HB2 HY
    cases sl with
    | false =>
      go_wp2_with fail
      go_ret
      exact ⟨by rw [← HSL.out]; rfl, HBF.out⟩
    | true =>
      have rz := HZ.out.range
      have ra := HAF.out.range
      have hq := fun w => eq_rin m { zI m.k with se := m.se } H256.out (by intro y hy; cases hy) w
      go_wp2_with (first | (refine wpList_load_midg (by rfl) 39 _ rfl _ _ rfl (Iv.rc ?_) _ ?_ Tryz.underlying39 rfl (rivinfo _) ?_; rotate_left; (focus assumption)))
      go_ret
      exact ⟨by rw [← HSL.out]; first | rfl | simp, HBF.out⟩
set_option maxRecDepth 20000 in
set_option maxHeartbeats 8000000 in
theorem rr_joi (m : Iv) (h256 : ∀ y ∈ m.x.p.bs, y < 256) (W : World) (e1 : (m.k == 1) = false) (e2 : (m.k == 2) = false) (e3 : (m.k == 3) = true) (e4 : (m.k == 4) = false) (e5 : (m.k == 5) = false) (e6 : (m.k == 6) = false) : Calls Tryz.prog 12 #[.agg m.rc.toArray] W fun e W' => e = .returned (.bool (((decide (0 < m.se) && decide (m.se < 13)) && (decide (0 < m.no) && decide (m.no < 13))) && sameI m { zI m.k with se := m.se, no := m.no })) ∧ Below W.heap.size W W' := by
  have bA := Blk.new W 39 m.rc.toArray
  have hB0 := (Below.refl W.heap.size W).alloc (Nat.le_refl _) (.cells m.rc.toArray 39)
  obtain ⟨w1, hw1⟩ : ∃ w1, w1 = W.alloc (.cells m.rc.toArray 39) := ⟨_, rfl⟩
  have hs1 : w1.heap.size = W.heap.size + 1 := by rw [hw1]; simp
  rw [← hw1] at bA hB0
  have HW1 := Lib.hid hw1
  have HA := Lib.hid bA
  have HB := Lib.hid hB0
  have HS1 := Lib.hid hs1
  have H256 := Lib.hid h256
  obtain ⟨-, -, -, -, c0, c1, c2, c3, ct⟩ := riv_all bA
  clear bA hB0 hw1 hs1 h256
  go_enter Tryz.func12, Tryz.ntmps12
  go_upto_region 1 with fail
  rw [← HW1.out]
  clear HW1
  go_upto_region 2 with (first | (refine wpList_build_lit (zI m.k).rc.toArray rfl 39 _ rfl (built_zIr m.k) ?_) | (refine wpList_store_blk rfl 39 _ _ rfl w1.heap.size 39 zrinA (zI m.k).rc.toArray rfl rfl (Blk.new' rfl) (rivinfoA _) (zrin_siz _) (riv_one _) ?_; intro hy))
  have hbn : Below w1.heap.size w1 ((w1.alloc (.cells zrinA 39)).setRow w1.heap.size (zI m.k).rc.toArray) := below_setRow ((Below.refl _ _).alloc (Nat.le_refl _) _) (Nat.le_refl _) _
  obtain ⟨w2, hw2⟩ : ∃ w2, w2 = (w1.alloc (.cells zrinA 39)).setRow w1.heap.size (zI m.k).rc.toArray := ⟨_, rfl⟩
  rw [← hw2] at hbn hy ⊢
  obtain ⟨p, hp⟩ : ∃ p, p = w1.heap.size := ⟨_, rfl⟩
  rw [← hp] at hy ⊢
  have hpS : p = W.heap.size + 1 := hp.trans HS1.out
  have HA2 := Lib.hid (HA.out.next hbn)
  have HB2 := Lib.hid (HB.out.trans (hbn.mono HB.out.size))
  have HY := Lib.hid hy
  have hp1 : W.heap.size < p := by omega
  clear hw2 hp hbn hy HA HB HS1 hpS c0 c1 c2 c3 ct
  obtain ⟨-, -, -, -, -, -, c2, -, -⟩ := riv_all HA2.out
  (try simp only [Act.put, List.setIfInBounds_toArray, List.set_cons_zero, List.set_cons_succ])
  go_cut [4] from 9 to 16 (fun vx wx => vx = .bool (decide (0 < m.se) && decide (m.se < 13)) ∧ w2 = wx)
  case first =>
    cases hd1 : decide (0 < m.se) with
    | false =>
      go_wp2_with fail
      go_meet
      exact ⟨by simp [hd1], rfl⟩
    | true =>
      cases hd2 : decide (m.se < 13) with
      | false =>
        go_wp2_with fail
        go_meet
        exact ⟨by simp [hd1, hd2], rfl⟩
      | true =>
        go_wp2_with fail
        go_meet
        exact ⟨by simp [hd1, hd2], rfl⟩
  case rest =>
    obtain ⟨rfl, rfl⟩ := hcut
    obtain ⟨sl, hsl⟩ : ∃ sl, sl = (decide (0 < m.se) && decide (m.se < 13)) := ⟨_, rfl⟩
    rw [← hsl]
    have HSL := Lib.hid hsl
    clear hsl c2
    obtain ⟨-, -, -, -, c0, -, -, -, -⟩ := riv_all HA2.out
    go_upto_region 12 with fail
    clear c0
    refine wp_region_tree (S := (fun w' => Below p w2 w')) (.take 0 (.take 1 (.take 2 (.take 3 (.take 4 (.one 5 (.take 6 (.one 7 .nil)))))))) 9999 (by kernel_rfl) (by kernel_rfl) (by kernel_rfl) (by kernel_rfl) (by kernel_rfl) (fun _ _ d _ _ h => by cases d <;> exact h) ((Below.refl _ _).drew) (fun hHeld => ?_); simp only [Tree.map, List.getElem?_toArray, List.getElem?_cons_zero, List.getElem?_cons_succ]
    (repeat (first | (refine wpTree.take (v := undef) (Or.inr ⟨by rfl, rfl⟩) ?_; simp only [Act.put, List.setIfInBounds_toArray, List.set_cons_zero, List.set_cons_succ]) | (refine wpTree.take (v := .agg (vl m.f).toArray) (yieldsIf_load_mid rfl 24 _ rfl _ _ rfl (vl m.f) _ ?_ Tryz.underlying24 rfl (vinfoL _)) ?_; (focus (intro wq hS; exact (riv_all (blk_below HA2.out hS hp1)).2.1)); simp only [Act.put, List.setIfInBounds_toArray, List.set_cons_zero, List.set_cons_succ]) | (refine wpTree.take (v := .agg m.o.plain.toArray) (yieldsIf_load_mid rfl 35 _ rfl _ _ rfl m.o.plain _ ?_ Tryz.underlying35 rfl (pinfoL6 _)) ?_; (focus (intro wq hS; exact (riv_all (blk_below HA2.out hS hp1)).2.2.1)); simp only [Act.put, List.setIfInBounds_toArray, List.set_cons_zero, List.set_cons_succ]) | (refine wpTree.take (v := .agg (rpc m.x.p).toArray) (yieldsIf_load_mid rfl 37 _ rfl _ _ rfl (rpc m.x.p) _ ?_ Tryz.underlying37 rfl (rpinfo _)) ?_; (focus (intro wq hS; exact (riv_all (blk_below HA2.out hS hp1)).2.2.2.1)); simp only [Act.put, List.setIfInBounds_toArray, List.set_cons_zero, List.set_cons_succ]) | (refine wpTree.take (v := ?_) (Or.inl ⟨by rfl, ?_⟩) ?_; rotate_left; (focus (intro wq hS; obtain ⟨r0, rf, ro, rx, c0, c1, c2, c3, ct⟩ := riv_all (blk_below HA2.out hS hp1); go_simp; (try (with_reducible rfl)); done)); simp only [Act.put, List.setIfInBounds_toArray, List.set_cons_zero, List.set_cons_succ])))
    obtain ⟨wd, hwd⟩ : ∃ wd, wd = w2.drew := ⟨_, rfl⟩
    have hbwd : Below p w2 wd := by rw [hwd]; exact (Below.refl _ _).drew
    have hywd : Blk wd p 39 (Iv.rc (zI m.k)).toArray := by rw [hwd]; exact HY.out.drew
    rw [← hwd]
    clear hwd
    have hkA : wd.cell? ⟨p, 2, none⟩ = some (.int .i64 0) := (riv_all hywd).2.2.2.2.2.2.1
    have hfA := hywd.frozen 2
    refine wpTree.one (fun K hK => ?_)
    go_simp
    obtain ⟨w3, hw⟩ : ∃ w3, w3 = wd.setCell ⟨p, 2, none⟩ (.int .i64 m.se) := ⟨_, rfl⟩
    have hbw3 : Below p w2 w3 := by rw [hw]; exact Below.setCell (p := ⟨p, 2, none⟩) hbwd (Nat.le_refl _) _
    have hyw3 : Blk w3 p 39 (Iv.rc { zI m.k with se := m.se }).toArray := by rw [hw]; exact riv_setH hywd (by omega) rfl rfl rfl rfl rfl
    rw [← hw]
    clear hw hkA hfA
    refine hK.out _ _ hbw3 (fun _ => ?_)
    clear hK K
    (try simp only [Act.put, List.setIfInBounds_toArray, List.set_cons_zero, List.set_cons_succ])
    (repeat (first | (refine wpTree.take (v := undef) (Or.inr ⟨by rfl, rfl⟩) ?_; simp only [Act.put, List.setIfInBounds_toArray, List.set_cons_zero, List.set_cons_succ]) | (refine wpTree.take (v := .agg (vl m.f).toArray) (yieldsIf_load_mid rfl 24 _ rfl _ _ rfl (vl m.f) _ ?_ Tryz.underlying24 rfl (vinfoL _)) ?_; (focus (intro wq hS; exact (riv_all (blk_below HA2.out hS hp1)).2.1)); simp only [Act.put, List.setIfInBounds_toArray, List.set_cons_zero, List.set_cons_succ]) | (refine wpTree.take (v := .agg m.o.plain.toArray) (yieldsIf_load_mid rfl 35 _ rfl _ _ rfl m.o.plain _ ?_ Tryz.underlying35 rfl (pinfoL6 _)) ?_; (focus (intro wq hS; exact (riv_all (blk_below HA2.out hS hp1)).2.2.1)); simp only [Act.put, List.setIfInBounds_toArray, List.set_cons_zero, List.set_cons_succ]) | (refine wpTree.take (v := .agg (rpc m.x.p).toArray) (yieldsIf_load_mid rfl 37 _ rfl _ _ rfl (rpc m.x.p) _ ?_ Tryz.underlying37 rfl (rpinfo _)) ?_; (focus (intro wq hS; exact (riv_all (blk_below HA2.out hS hp1)).2.2.2.1)); simp only [Act.put, List.setIfInBounds_toArray, List.set_cons_zero, List.set_cons_succ]) | (refine wpTree.take (v := ?_) (Or.inl ⟨by rfl, ?_⟩) ?_; rotate_left; (focus (intro wq hS; obtain ⟨r0, rf, ro, rx, c0, c1, c2, c3, ct⟩ := riv_all (blk_below HA2.out hS hp1); go_simp; (try (with_reducible rfl)); done)); simp only [Act.put, List.setIfInBounds_toArray, List.set_cons_zero, List.set_cons_succ])))
    have hkA : w3.cell? ⟨p, 3, none⟩ = some (.int .i64 0) := (riv_all hyw3).2.2.2.2.2.2.2.1
    have hfA := hyw3.frozen 3
    refine wpTree.one (fun K hK => ?_)
    go_simp
    obtain ⟨w4, hw⟩ : ∃ w4, w4 = w3.setCell ⟨p, 3, none⟩ (.int .i64 m.no) := ⟨_, rfl⟩
    have hbw4 : Below p w2 w4 := by rw [hw]; exact Below.setCell (p := ⟨p, 3, none⟩) hbw3 (Nat.le_refl _) _
    have hyw4 : Blk w4 p 39 (Iv.rc { zI m.k with se := m.se, no := m.no }).toArray := by rw [hw]; exact riv_setH hyw3 (by omega) rfl rfl rfl rfl rfl
    rw [← hw]
    clear hw hkA hfA
    refine hK.out _ _ hbw4 (fun _ => ?_)
    clear hK K
    (try simp only [Act.put, List.setIfInBounds_toArray, List.set_cons_zero, List.set_cons_succ])
    (repeat (first | (refine wpTree.take (v := undef) (Or.inr ⟨by rfl, rfl⟩) ?_; simp only [Act.put, List.setIfInBounds_toArray, List.set_cons_zero, List.set_cons_succ]) | (refine wpTree.take (v := .agg (vl m.f).toArray) (yieldsIf_load_mid rfl 24 _ rfl _ _ rfl (vl m.f) _ ?_ Tryz.underlying24 rfl (vinfoL _)) ?_; (focus (intro wq hS; exact (riv_all (blk_below HA2.out hS hp1)).2.1)); simp only [Act.put, List.setIfInBounds_toArray, List.set_cons_zero, List.set_cons_succ]) | (refine wpTree.take (v := .agg m.o.plain.toArray) (yieldsIf_load_mid rfl 35 _ rfl _ _ rfl m.o.plain _ ?_ Tryz.underlying35 rfl (pinfoL6 _)) ?_; (focus (intro wq hS; exact (riv_all (blk_below HA2.out hS hp1)).2.2.1)); simp only [Act.put, List.setIfInBounds_toArray, List.set_cons_zero, List.set_cons_succ]) | (refine wpTree.take (v := .agg (rpc m.x.p).toArray) (yieldsIf_load_mid rfl 37 _ rfl _ _ rfl (rpc m.x.p) _ ?_ Tryz.underlying37 rfl (rpinfo _)) ?_; (focus (intro wq hS; exact (riv_all (blk_below HA2.out hS hp1)).2.2.2.1)); simp only [Act.put, List.setIfInBounds_toArray, List.set_cons_zero, List.set_cons_succ]) | (refine wpTree.take (v := ?_) (Or.inl ⟨by rfl, ?_⟩) ?_; rotate_left; (focus (intro wq hS; obtain ⟨r0, rf, ro, rx, c0, c1, c2, c3, ct⟩ := riv_all (blk_below HA2.out hS hp1); go_simp; (try (with_reducible rfl)); done)); simp only [Act.put, List.setIfInBounds_toArray, List.set_cons_zero, List.set_cons_succ])))
    refine wpTree.done ?_
    clear hHeld
    have HZ := Lib.hid (show Blk w4 p 39 (Iv.rc { zI m.k with se := m.se, no := m.no }).toArray from hyw4)
    have HBF := Lib.hid (HB2.out.trans (hbw4.mono (Nat.le_of_lt hp1)))
    have HAF := Lib.hid (blk_below HA2.out hbw4 hp1)
    clear hbw4 hyw4 hbw3 hyw3 hbwd hywd HA2 HB2 HY
    obtain ⟨-, -, -, -, -, -, -, c3, -⟩ := riv_all HAF.out
    cases sl with
    | false =>
      go_wp2_with fail
      go_ret
      exact ⟨by rw [← HSL.out]; rfl, HBF.out⟩
    | true =>
      cases hd3 : decide (0 < m.no) with
      | false =>
        go_wp2_with fail
        go_ret
        exact ⟨by first | (rw [← HSL.out]; rfl) | simp [hd3], HBF.out⟩
      | true =>
        cases hd4 : decide (m.no < 13) with
        | false =>
          go_wp2_with fail
          go_ret
          exact ⟨by first | (rw [← HSL.out]; rfl) | simp [hd3, hd4], HBF.out⟩
        | true =>
          have rz := HZ.out.range
          have ra := HAF.out.range
          have hq := fun w => eq_rin m { zI m.k with se := m.se, no := m.no } H256.out (by intro y hy; cases hy) w
          go_wp2_with (first | (refine wpList_load_midg (by rfl) 39 _ rfl _ _ rfl (Iv.rc ?_) _ ?_ Tryz.underlying39 rfl (rivinfo _) ?_; rotate_left; (focus assumption)))
          go_ret
          exact ⟨by first | (rw [← HSL.out]; rfl) | (have h := HSL.out.symm; simp only [h, hd3, hd4, Bool.true_and, Bool.and_true]) | (have h := HSL.out.symm; rw [h, hd3, hd4]; rfl), HBF.out⟩
set_option maxRecDepth 20000 in
set_option maxHeartbeats 8000000 in
theorem rr_chk (m : Iv) (h256 : ∀ y ∈ m.x.p.bs, y < 256) (W : World) (e1 : (m.k == 1) = false) (e2 : (m.k == 2) = false) (e3 : (m.k == 3) = false) (e4 : (m.k == 4) = false) (e5 : (m.k == 5) = true) (e6 : (m.k == 6) = false) : Calls Tryz.prog 12 #[.agg m.rc.toArray] W fun e W' => e = .returned (.bool (cartB m && sameI m { zI m.k with ca := m.ca, f := m.f, t := m.t })) ∧ Below W.heap.size W W' := by
  have bA := Blk.new W 39 m.rc.toArray
  have hB0 := (Below.refl W.heap.size W).alloc (Nat.le_refl _) (.cells m.rc.toArray 39)
  obtain ⟨w1, hw1⟩ : ∃ w1, w1 = W.alloc (.cells m.rc.toArray 39) := ⟨_, rfl⟩
  have hs1 : w1.heap.size = W.heap.size + 1 := by rw [hw1]; simp
  rw [← hw1] at bA hB0
  have HW1 := Lib.hid hw1
  have HA := Lib.hid bA
  have HB := Lib.hid hB0
  have HS1 := Lib.hid hs1
  have H256 := Lib.hid h256
  obtain ⟨-, -, -, -, c0, c1, c2, c3, ct⟩ := riv_all bA
  clear bA hB0 hw1 hs1 h256
  go_enter Tryz.func12, Tryz.ntmps12
  go_upto_region 1 with fail
  rw [← HW1.out]
  clear HW1
  go_upto_region 2 with (first | (refine wpList_build_lit (zI m.k).rc.toArray rfl 39 _ rfl (built_zIr m.k) ?_) | (refine wpList_store_blk rfl 39 _ _ rfl w1.heap.size 39 zrinA (zI m.k).rc.toArray rfl rfl (Blk.new' rfl) (rivinfoA _) (zrin_siz _) (riv_one _) ?_; intro hy))
  have hbn : Below w1.heap.size w1 ((w1.alloc (.cells zrinA 39)).setRow w1.heap.size (zI m.k).rc.toArray) := below_setRow ((Below.refl _ _).alloc (Nat.le_refl _) _) (Nat.le_refl _) _
  obtain ⟨w2, hw2⟩ : ∃ w2, w2 = (w1.alloc (.cells zrinA 39)).setRow w1.heap.size (zI m.k).rc.toArray := ⟨_, rfl⟩
  rw [← hw2] at hbn hy ⊢
  obtain ⟨p, hp⟩ : ∃ p, p = w1.heap.size := ⟨_, rfl⟩
  rw [← hp] at hy ⊢
  have hpS : p = W.heap.size + 1 := hp.trans HS1.out
  have HA2 := Lib.hid (HA.out.next hbn)
  have HB2 := Lib.hid (HB.out.trans (hbn.mono HB.out.size))
  have HY := Lib.hid hy
  have hp1 : W.heap.size < p := by omega
  clear hw2 hp hbn hy HA HB HS1 hpS c0 c1 c2 c3 ct
  obtain ⟨-, -, -, -, -, -, c2, -, -⟩ := riv_all HA2.out
  (try simp only [Act.put, List.setIfInBounds_toArray, List.set_cons_zero, List.set_cons_succ])
  go_cut [4] from 9 to 16 (fun vx wx => vx = .bool (decide (0 < m.se) && decide (m.se < 13)) ∧ w2 = wx)
  case first =>
    cases hd1 : decide (0 < m.se) with
    | false =>
      go_wp2_with fail
      go_meet
      exact ⟨by simp [hd1], rfl⟩
    | true =>
      cases hd2 : decide (m.se < 13) with
      | false =>
        go_wp2_with fail
        go_meet
        exact ⟨by simp [hd1, hd2], rfl⟩
      | true =>
        go_wp2_with fail
        go_meet
        exact ⟨by simp [hd1, hd2], rfl⟩
  case rest =>
    obtain ⟨rfl, rfl⟩ := hcut
    obtain ⟨sl, hsl⟩ : ∃ sl, sl = (decide (0 < m.se) && decide (m.se < 13)) := ⟨_, rfl⟩
    rw [← hsl]
    have HSL := Lib.hid hsl
    clear hsl c2
    obtain ⟨-, -, -, -, c0, -, -, -, -⟩ := riv_all HA2.out
    go_upto_region 15 with fail
    clear c0
    refine wp_region_tree (S := (fun w' => Below p w2 w')) (.take 0 (.take 1 (.take 2 (.take 3 (.take 4 (.take 5 (.take 6 (.one 7 (.take 8 (.one 9 (.take 10 (.one 11 .nil)))))))))))) 9999 (by kernel_rfl) (by kernel_rfl) (by kernel_rfl) (by kernel_rfl) (by kernel_rfl) (fun _ _ d _ _ h => by cases d <;> exact h) ((Below.refl _ _).drew) (fun hHeld => ?_); simp only [Tree.map, List.getElem?_toArray, List.getElem?_cons_zero, List.getElem?_cons_succ]
    (repeat (first | (refine wpTree.take (v := undef) (Or.inr ⟨by rfl, rfl⟩) ?_; simp only [Act.put, List.setIfInBounds_toArray, List.set_cons_zero, List.set_cons_succ]) | (refine wpTree.take (v := .agg (vl m.f).toArray) (yieldsIf_load_mid rfl 24 _ rfl _ _ rfl (vl m.f) _ ?_ Tryz.underlying24 rfl (vinfoL _)) ?_; (focus (intro wq hS; exact (riv_all (blk_below HA2.out hS hp1)).2.1)); simp only [Act.put, List.setIfInBounds_toArray, List.set_cons_zero, List.set_cons_succ]) | (refine wpTree.take (v := .agg m.o.plain.toArray) (yieldsIf_load_mid rfl 35 _ rfl _ _ rfl m.o.plain _ ?_ Tryz.underlying35 rfl (pinfoL6 _)) ?_; (focus (intro wq hS; exact (riv_all (blk_below HA2.out hS hp1)).2.2.1)); simp only [Act.put, List.setIfInBounds_toArray, List.set_cons_zero, List.set_cons_succ]) | (refine wpTree.take (v := .agg (rpc m.x.p).toArray) (yieldsIf_load_mid rfl 37 _ rfl _ _ rfl (rpc m.x.p) _ ?_ Tryz.underlying37 rfl (rpinfo _)) ?_; (focus (intro wq hS; exact (riv_all (blk_below HA2.out hS hp1)).2.2.2.1)); simp only [Act.put, List.setIfInBounds_toArray, List.set_cons_zero, List.set_cons_succ]) | (refine wpTree.take (v := ?_) (Or.inl ⟨by rfl, ?_⟩) ?_; rotate_left; (focus (intro wq hS; obtain ⟨r0, rf, ro, rx, c0, c1, c2, c3, ct⟩ := riv_all (blk_below HA2.out hS hp1); go_simp; (try (with_reducible rfl)); done)); simp only [Act.put, List.setIfInBounds_toArray, List.set_cons_zero, List.set_cons_succ])))
    obtain ⟨wd, hwd⟩ : ∃ wd, wd = w2.drew := ⟨_, rfl⟩
    have hbwd : Below p w2 wd := by rw [hwd]; exact (Below.refl _ _).drew
    have hywd : Blk wd p 39 (Iv.rc (zI m.k)).toArray := by rw [hwd]; exact HY.out.drew
    rw [← hwd]
    clear hwd
    have hkA : wd.cell? ⟨p, 1, none⟩ = some (.int .i64 0) := (riv_all hywd).2.2.2.2.2.1
    have hfA := hywd.frozen 1
    refine wpTree.one (fun K hK => ?_)
    go_simp
    obtain ⟨w3, hw⟩ : ∃ w3, w3 = wd.setCell ⟨p, 1, none⟩ (.int .i64 m.ca) := ⟨_, rfl⟩
    have hbw3 : Below p w2 w3 := by rw [hw]; exact Below.setCell (p := ⟨p, 1, none⟩) hbwd (Nat.le_refl _) _
    have hyw3 : Blk w3 p 39 (Iv.rc { zI m.k with ca := m.ca }).toArray := by rw [hw]; exact riv_setH hywd (by omega) rfl rfl rfl rfl rfl
    rw [← hw]
    clear hw hkA hfA
    refine hK.out _ _ hbw3 (fun _ => ?_)
    clear hK K
    (try simp only [Act.put, List.setIfInBounds_toArray, List.set_cons_zero, List.set_cons_succ])
    (repeat (first | (refine wpTree.take (v := undef) (Or.inr ⟨by rfl, rfl⟩) ?_; simp only [Act.put, List.setIfInBounds_toArray, List.set_cons_zero, List.set_cons_succ]) | (refine wpTree.take (v := .agg (vl m.f).toArray) (yieldsIf_load_mid rfl 24 _ rfl _ _ rfl (vl m.f) _ ?_ Tryz.underlying24 rfl (vinfoL _)) ?_; (focus (intro wq hS; exact (riv_all (blk_below HA2.out hS hp1)).2.1)); simp only [Act.put, List.setIfInBounds_toArray, List.set_cons_zero, List.set_cons_succ]) | (refine wpTree.take (v := .agg m.o.plain.toArray) (yieldsIf_load_mid rfl 35 _ rfl _ _ rfl m.o.plain _ ?_ Tryz.underlying35 rfl (pinfoL6 _)) ?_; (focus (intro wq hS; exact (riv_all (blk_below HA2.out hS hp1)).2.2.1)); simp only [Act.put, List.setIfInBounds_toArray, List.set_cons_zero, List.set_cons_succ]) | (refine wpTree.take (v := .agg (rpc m.x.p).toArray) (yieldsIf_load_mid rfl 37 _ rfl _ _ rfl (rpc m.x.p) _ ?_ Tryz.underlying37 rfl (rpinfo _)) ?_; (focus (intro wq hS; exact (riv_all (blk_below HA2.out hS hp1)).2.2.2.1)); simp only [Act.put, List.setIfInBounds_toArray, List.set_cons_zero, List.set_cons_succ]) | (refine wpTree.take (v := ?_) (Or.inl ⟨by rfl, ?_⟩) ?_; rotate_left; (focus (intro wq hS; obtain ⟨r0, rf, ro, rx, c0, c1, c2, c3, ct⟩ := riv_all (blk_below HA2.out hS hp1); go_simp; (try (with_reducible rfl)); done)); simp only [Act.put, List.setIfInBounds_toArray, List.set_cons_zero, List.set_cons_succ])))
    have hth := hyw3.thereT (o := 4) (n := (vl m.f).toArray.size) (by rw [List.size_toArray, List.size_toArray, riv_len, vl_len]; omega)
    refine wpTree.one (fun K hK => ?_)
    (try rw [if_pos (by rfl)])
    refine wp_store_mid 24 _ _ rfl p 4 (vl m.f).toArray rfl rfl hth (vinfo _) (vl_all _) ?_
    show K _ (w3.setCells p 4 (vl m.f))
    obtain ⟨w4, hw⟩ : ∃ w4, w4 = w3.setCells p 4 (vl m.f) := ⟨_, rfl⟩
    have hbw4 : Below p w2 w4 := by rw [hw]; exact setCells_below (Nat.le_refl _) _ _ _ hbw3
    have hyw4 : Blk w4 p 39 (Iv.rc { zI m.k with ca := m.ca, f := m.f }).toArray := by rw [hw]; exact riv_setF hyw3 m.f
    rw [← hw]
    clear hw hth
    refine hK.out _ _ hbw4 (fun _ => ?_)
    clear hK K
    (try simp only [Act.put, List.setIfInBounds_toArray, List.set_cons_zero, List.set_cons_succ])
    (repeat (first | (refine wpTree.take (v := undef) (Or.inr ⟨by rfl, rfl⟩) ?_; simp only [Act.put, List.setIfInBounds_toArray, List.set_cons_zero, List.set_cons_succ]) | (refine wpTree.take (v := .agg (vl m.f).toArray) (yieldsIf_load_mid rfl 24 _ rfl _ _ rfl (vl m.f) _ ?_ Tryz.underlying24 rfl (vinfoL _)) ?_; (focus (intro wq hS; exact (riv_all (blk_below HA2.out hS hp1)).2.1)); simp only [Act.put, List.setIfInBounds_toArray, List.set_cons_zero, List.set_cons_succ]) | (refine wpTree.take (v := .agg m.o.plain.toArray) (yieldsIf_load_mid rfl 35 _ rfl _ _ rfl m.o.plain _ ?_ Tryz.underlying35 rfl (pinfoL6 _)) ?_; (focus (intro wq hS; exact (riv_all (blk_below HA2.out hS hp1)).2.2.1)); simp only [Act.put, List.setIfInBounds_toArray, List.set_cons_zero, List.set_cons_succ]) | (refine wpTree.take (v := .agg (rpc m.x.p).toArray) (yieldsIf_load_mid rfl 37 _ rfl _ _ rfl (rpc m.x.p) _ ?_ Tryz.underlying37 rfl (rpinfo _)) ?_; (focus (intro wq hS; exact (riv_all (blk_below HA2.out hS hp1)).2.2.2.1)); simp only [Act.put, List.setIfInBounds_toArray, List.set_cons_zero, List.set_cons_succ]) | (refine wpTree.take (v := ?_) (Or.inl ⟨by rfl, ?_⟩) ?_; rotate_left; (focus (intro wq hS; obtain ⟨r0, rf, ro, rx, c0, c1, c2, c3, ct⟩ := riv_all (blk_below HA2.out hS hp1); go_simp; (try (with_reducible rfl)); done)); simp only [Act.put, List.setIfInBounds_toArray, List.set_cons_zero, List.set_cons_succ])))
    have hkA : w4.cell? ⟨p, 16, none⟩ = some (.int .u64 ((0 : Nat) : Int)) := (riv_all hyw4).2.2.2.2.2.2.2.2
    have hfA := hyw4.frozen 16
    refine wpTree.one (fun K hK => ?_)
    go_simp
    obtain ⟨w5, hw⟩ : ∃ w5, w5 = w4.setCell ⟨p, 16, none⟩ (.int .u64 (m.t : Nat)) := ⟨_, rfl⟩
    have hbw5 : Below p w2 w5 := by rw [hw]; exact Below.setCell (p := ⟨p, 16, none⟩) hbw4 (Nat.le_refl _) _
    have hyw5 : Blk w5 p 39 (Iv.rc { zI m.k with ca := m.ca, f := m.f, t := m.t }).toArray := by rw [hw]; exact riv_setT hyw4 m.t
    rw [← hw]
    clear hw hkA hfA
    refine hK.out _ _ hbw5 (fun _ => ?_)
    clear hK K
    (try simp only [Act.put, List.setIfInBounds_toArray, List.set_cons_zero, List.set_cons_succ])
    (repeat (first | (refine wpTree.take (v := undef) (Or.inr ⟨by rfl, rfl⟩) ?_; simp only [Act.put, List.setIfInBounds_toArray, List.set_cons_zero, List.set_cons_succ]) | (refine wpTree.take (v := .agg (vl m.f).toArray) (yieldsIf_load_mid rfl 24 _ rfl _ _ rfl (vl m.f) _ ?_ Tryz.underlying24 rfl (vinfoL _)) ?_; (focus (intro wq hS; exact (riv_all (blk_below HA2.out hS hp1)).2.1)); simp only [Act.put, List.setIfInBounds_toArray, List.set_cons_zero, List.set_cons_succ]) | (refine wpTree.take (v := .agg m.o.plain.toArray) (yieldsIf_load_mid rfl 35 _ rfl _ _ rfl m.o.plain _ ?_ Tryz.underlying35 rfl (pinfoL6 _)) ?_; (focus (intro wq hS; exact (riv_all (blk_below HA2.out hS hp1)).2.2.1)); simp only [Act.put, List.setIfInBounds_toArray, List.set_cons_zero, List.set_cons_succ]) | (refine wpTree.take (v := .agg (rpc m.x.p).toArray) (yieldsIf_load_mid rfl 37 _ rfl _ _ rfl (rpc m.x.p) _ ?_ Tryz.underlying37 rfl (rpinfo _)) ?_; (focus (intro wq hS; exact (riv_all (blk_below HA2.out hS hp1)).2.2.2.1)); simp only [Act.put, List.setIfInBounds_toArray, List.set_cons_zero, List.set_cons_succ]) | (refine wpTree.take (v := ?_) (Or.inl ⟨by rfl, ?_⟩) ?_; rotate_left; (focus (intro wq hS; obtain ⟨r0, rf, ro, rx, c0, c1, c2, c3, ct⟩ := riv_all (blk_below HA2.out hS hp1); go_simp; (try (with_reducible rfl)); done)); simp only [Act.put, List.setIfInBounds_toArray, List.set_cons_zero, List.set_cons_succ])))
    refine wpTree.done ?_
    clear hHeld
    have HZ := Lib.hid (show Blk w5 p 39 (Iv.rc { zI m.k with ca := m.ca, f := m.f, t := m.t }).toArray from hyw5)
    have HBF := Lib.hid (HB2.out.trans (hbw5.mono (Nat.le_of_lt hp1)))
    have HAF := Lib.hid (blk_below HA2.out hbw5 hp1)
    clear hbw5 hyw5 hbw4 hyw4 hbw3 hyw3 hbwd hywd HA2 HB2 HY
    have ra := HAF.out.range
    obtain ⟨cb, hcb⟩ : ∃ cb, cb = cartB m := ⟨_, rfl⟩
    go_upto_region 19 with (first | (refine wpList_load_midg (by rfl) 39 _ rfl _ _ rfl (Iv.rc ?_) _ ?_ Tryz.underlying39 rfl (rivinfo _) ?_; rotate_left; (focus assumption)) | (go_at_call 39; refine (ask26_any m _).mono ?_; rintro e wk ⟨rfl, hb⟩; have HBK := Lib.hid (HBF.out.trans (hb.mono HBF.out.size)); have HZK := Lib.hid (HZ.out.next hb); have HAK := Lib.hid (HAF.out.next hb); clear hb ra))
    have HBF := Lib.hid HBK.out
    have HZ := Lib.hid HZK.out
    have HAF := Lib.hid HAK.out
    have HCB := Lib.hid hcb
    rw [← hcb]
    clear hcb HBK HZK HAK
    cases cb with
    | false =>
      go_wp2_with fail
      go_ret
      exact ⟨by rw [← HCB.out]; rfl, HBF.out⟩
    | true =>
      have rz := HZ.out.range
      have ra := HAF.out.range
      have hq := fun w => eq_rin m { zI m.k with ca := m.ca, f := m.f, t := m.t } H256.out (by intro y hy; cases hy) w
      go_wp2_with (first | (refine wpList_load_midg (by rfl) 39 _ rfl _ _ rfl (Iv.rc ?_) _ ?_ Tryz.underlying39 rfl (rivinfo _) ?_; rotate_left; (focus assumption)))
      go_ret
      exact ⟨by rw [← HCB.out]; first | rfl | simp, HBF.out⟩
set_option maxRecDepth 20000 in
set_option maxHeartbeats 8000000 in
theorem rr_ord (m : Iv) (h256 : ∀ y ∈ m.x.p.bs, y < 256) (W : World) (e1 : (m.k == 1) = true) (e2 : (m.k == 2) = false) (e3 : (m.k == 3) = false) (e4 : (m.k == 4) = false) (e5 : (m.k == 5) = false) (e6 : (m.k == 6) = false) : Calls Tryz.prog 12 #[.agg m.rc.toArray] W fun e W' => e = .returned (.bool (((cartB m && (decide (0 < m.se) && decide (m.se < 13))) && rmayB m.o) && sameI m { zI m.k with ca := m.ca, se := m.se, f := m.f, t := m.t, o := m.o })) ∧ Below W.heap.size W W' := by
  have bA := Blk.new W 39 m.rc.toArray
  have hB0 := (Below.refl W.heap.size W).alloc (Nat.le_refl _) (.cells m.rc.toArray 39)
  obtain ⟨w1, hw1⟩ : ∃ w1, w1 = W.alloc (.cells m.rc.toArray 39) := ⟨_, rfl⟩
  have hs1 : w1.heap.size = W.heap.size + 1 := by rw [hw1]; simp
  rw [← hw1] at bA hB0
  have HW1 := Lib.hid hw1
  have HA := Lib.hid bA
  have HB := Lib.hid hB0
  have HS1 := Lib.hid hs1
  have H256 := Lib.hid h256
  obtain ⟨-, -, -, -, c0, c1, c2, c3, ct⟩ := riv_all bA
  clear bA hB0 hw1 hs1 h256
  go_enter Tryz.func12, Tryz.ntmps12
  go_upto_region 1 with fail
  rw [← HW1.out]
  clear HW1
  go_upto_region 2 with (first | (refine wpList_build_lit (zI m.k).rc.toArray rfl 39 _ rfl (built_zIr m.k) ?_) | (refine wpList_store_blk rfl 39 _ _ rfl w1.heap.size 39 zrinA (zI m.k).rc.toArray rfl rfl (Blk.new' rfl) (rivinfoA _) (zrin_siz _) (riv_one _) ?_; intro hy))
  have hbn : Below w1.heap.size w1 ((w1.alloc (.cells zrinA 39)).setRow w1.heap.size (zI m.k).rc.toArray) := below_setRow ((Below.refl _ _).alloc (Nat.le_refl _) _) (Nat.le_refl _) _
  obtain ⟨w2, hw2⟩ : ∃ w2, w2 = (w1.alloc (.cells zrinA 39)).setRow w1.heap.size (zI m.k).rc.toArray := ⟨_, rfl⟩
  rw [← hw2] at hbn hy ⊢
  obtain ⟨p, hp⟩ : ∃ p, p = w1.heap.size := ⟨_, rfl⟩
  rw [← hp] at hy ⊢
  have hpS : p = W.heap.size + 1 := hp.trans HS1.out
  have HA2 := Lib.hid (HA.out.next hbn)
  have HB2 := Lib.hid (HB.out.trans (hbn.mono HB.out.size))
  have HY := Lib.hid hy
  have hp1 : W.heap.size < p := by omega
  clear hw2 hp hbn hy HA HB HS1 hpS c0 c1 c2 c3 ct
  obtain ⟨-, -, -, -, -, -, c2, -, -⟩ := riv_all HA2.out
  (try simp only [Act.put, List.setIfInBounds_toArray, List.set_cons_zero, List.set_cons_succ])
  go_cut [4] from 9 to 16 (fun vx wx => vx = .bool (decide (0 < m.se) && decide (m.se < 13)) ∧ w2 = wx)
  case first =>
    cases hd1 : decide (0 < m.se) with
    | false =>
      go_wp2_with fail
      go_meet
      exact ⟨by simp [hd1], rfl⟩
    | true =>
      cases hd2 : decide (m.se < 13) with
      | false =>
        go_wp2_with fail
        go_meet
        exact ⟨by simp [hd1, hd2], rfl⟩
      | true =>
        go_wp2_with fail
        go_meet
        exact ⟨by simp [hd1, hd2], rfl⟩
  case rest =>
    obtain ⟨rfl, rfl⟩ := hcut
    obtain ⟨sl, hsl⟩ : ∃ sl, sl = (decide (0 < m.se) && decide (m.se < 13)) := ⟨_, rfl⟩
    rw [← hsl]
    have HSL := Lib.hid hsl
    clear hsl c2
    obtain ⟨-, -, -, -, c0, -, -, -, -⟩ := riv_all HA2.out
    go_upto_region 6 with fail
    clear c0
    refine wp_region_tree (S := (fun w' => Below p w2 w')) (.take 0 (.take 1 (.take 2 (.take 3 (.take 4 (.take 5 (.take 6 (.take 7 (.take 8 (.take 9 (.take 10 (.one 11 (.take 12 (.one 13 (.take 14 (.one 15 (.take 16 (.one 17 (.take 18 (.one 19 .nil)))))))))))))))))))) 9999 (by kernel_rfl) (by kernel_rfl) (by kernel_rfl) (by kernel_rfl) (by kernel_rfl) (fun _ _ d _ _ h => by cases d <;> exact h) ((Below.refl _ _).drew) (fun hHeld => ?_); simp only [Tree.map, List.getElem?_toArray, List.getElem?_cons_zero, List.getElem?_cons_succ]
    (repeat (first | (refine wpTree.take (v := undef) (Or.inr ⟨by rfl, rfl⟩) ?_; simp only [Act.put, List.setIfInBounds_toArray, List.set_cons_zero, List.set_cons_succ]) | (refine wpTree.take (v := .agg (vl m.f).toArray) (yieldsIf_load_mid rfl 24 _ rfl _ _ rfl (vl m.f) _ ?_ Tryz.underlying24 rfl (vinfoL _)) ?_; (focus (intro wq hS; exact (riv_all (blk_below HA2.out hS hp1)).2.1)); simp only [Act.put, List.setIfInBounds_toArray, List.set_cons_zero, List.set_cons_succ]) | (refine wpTree.take (v := .agg m.o.plain.toArray) (yieldsIf_load_mid rfl 35 _ rfl _ _ rfl m.o.plain _ ?_ Tryz.underlying35 rfl (pinfoL6 _)) ?_; (focus (intro wq hS; exact (riv_all (blk_below HA2.out hS hp1)).2.2.1)); simp only [Act.put, List.setIfInBounds_toArray, List.set_cons_zero, List.set_cons_succ]) | (refine wpTree.take (v := .agg (rpc m.x.p).toArray) (yieldsIf_load_mid rfl 37 _ rfl _ _ rfl (rpc m.x.p) _ ?_ Tryz.underlying37 rfl (rpinfo _)) ?_; (focus (intro wq hS; exact (riv_all (blk_below HA2.out hS hp1)).2.2.2.1)); simp only [Act.put, List.setIfInBounds_toArray, List.set_cons_zero, List.set_cons_succ]) | (refine wpTree.take (v := ?_) (Or.inl ⟨by rfl, ?_⟩) ?_; rotate_left; (focus (intro wq hS; obtain ⟨r0, rf, ro, rx, c0, c1, c2, c3, ct⟩ := riv_all (blk_below HA2.out hS hp1); go_simp; (try (with_reducible rfl)); done)); simp only [Act.put, List.setIfInBounds_toArray, List.set_cons_zero, List.set_cons_succ])))
    obtain ⟨wd, hwd⟩ : ∃ wd, wd = w2.drew := ⟨_, rfl⟩
    have hbwd : Below p w2 wd := by rw [hwd]; exact (Below.refl _ _).drew
    have hywd : Blk wd p 39 (Iv.rc (zI m.k)).toArray := by rw [hwd]; exact HY.out.drew
    rw [← hwd]
    clear hwd
    have hkA : wd.cell? ⟨p, 1, none⟩ = some (.int .i64 0) := (riv_all hywd).2.2.2.2.2.1
    have hfA := hywd.frozen 1
    refine wpTree.one (fun K hK => ?_)
    go_simp
    obtain ⟨w3, hw⟩ : ∃ w3, w3 = wd.setCell ⟨p, 1, none⟩ (.int .i64 m.ca) := ⟨_, rfl⟩
    have hbw3 : Below p w2 w3 := by rw [hw]; exact Below.setCell (p := ⟨p, 1, none⟩) hbwd (Nat.le_refl _) _
    have hyw3 : Blk w3 p 39 (Iv.rc { zI m.k with ca := m.ca }).toArray := by rw [hw]; exact riv_setH hywd (by omega) rfl rfl rfl rfl rfl
    rw [← hw]
    clear hw hkA hfA
    refine hK.out _ _ hbw3 (fun _ => ?_)
    clear hK K
    (try simp only [Act.put, List.setIfInBounds_toArray, List.set_cons_zero, List.set_cons_succ])
    (repeat (first | (refine wpTree.take (v := undef) (Or.inr ⟨by rfl, rfl⟩) ?_; simp only [Act.put, List.setIfInBounds_toArray, List.set_cons_zero, List.set_cons_succ]) | (refine wpTree.take (v := .agg (vl m.f).toArray) (yieldsIf_load_mid rfl 24 _ rfl _ _ rfl (vl m.f) _ ?_ Tryz.underlying24 rfl (vinfoL _)) ?_; (focus (intro wq hS; exact (riv_all (blk_below HA2.out hS hp1)).2.1)); simp only [Act.put, List.setIfInBounds_toArray, List.set_cons_zero, List.set_cons_succ]) | (refine wpTree.take (v := .agg m.o.plain.toArray) (yieldsIf_load_mid rfl 35 _ rfl _ _ rfl m.o.plain _ ?_ Tryz.underlying35 rfl (pinfoL6 _)) ?_; (focus (intro wq hS; exact (riv_all (blk_below HA2.out hS hp1)).2.2.1)); simp only [Act.put, List.setIfInBounds_toArray, List.set_cons_zero, List.set_cons_succ]) | (refine wpTree.take (v := .agg (rpc m.x.p).toArray) (yieldsIf_load_mid rfl 37 _ rfl _ _ rfl (rpc m.x.p) _ ?_ Tryz.underlying37 rfl (rpinfo _)) ?_; (focus (intro wq hS; exact (riv_all (blk_below HA2.out hS hp1)).2.2.2.1)); simp only [Act.put, List.setIfInBounds_toArray, List.set_cons_zero, List.set_cons_succ]) | (refine wpTree.take (v := ?_) (Or.inl ⟨by rfl, ?_⟩) ?_; rotate_left; (focus (intro wq hS; obtain ⟨r0, rf, ro, rx, c0, c1, c2, c3, ct⟩ := riv_all (blk_below HA2.out hS hp1); go_simp; (try (with_reducible rfl)); done)); simp only [Act.put, List.setIfInBounds_toArray, List.set_cons_zero, List.set_cons_succ])))
    have hkA : w3.cell? ⟨p, 2, none⟩ = some (.int .i64 0) := (riv_all hyw3).2.2.2.2.2.2.1
    have hfA := hyw3.frozen 2
    refine wpTree.one (fun K hK => ?_)
    go_simp
    obtain ⟨w4, hw⟩ : ∃ w4, w4 = w3.setCell ⟨p, 2, none⟩ (.int .i64 m.se) := ⟨_, rfl⟩
    have hbw4 : Below p w2 w4 := by rw [hw]; exact Below.setCell (p := ⟨p, 2, none⟩) hbw3 (Nat.le_refl _) _
    have hyw4 : Blk w4 p 39 (Iv.rc { zI m.k with ca := m.ca, se := m.se }).toArray := by rw [hw]; exact riv_setH hyw3 (by omega) rfl rfl rfl rfl rfl
    rw [← hw]
    clear hw hkA hfA
    refine hK.out _ _ hbw4 (fun _ => ?_)
    clear hK K
    (try simp only [Act.put, List.setIfInBounds_toArray, List.set_cons_zero, List.set_cons_succ])
    (repeat (first | (refine wpTree.take (v := undef) (Or.inr ⟨by rfl, rfl⟩) ?_; simp only [Act.put, List.setIfInBounds_toArray, List.set_cons_zero, List.set_cons_succ]) | (refine wpTree.take (v := .agg (vl m.f).toArray) (yieldsIf_load_mid rfl 24 _ rfl _ _ rfl (vl m.f) _ ?_ Tryz.underlying24 rfl (vinfoL _)) ?_; (focus (intro wq hS; exact (riv_all (blk_below HA2.out hS hp1)).2.1)); simp only [Act.put, List.setIfInBounds_toArray, List.set_cons_zero, List.set_cons_succ]) | (refine wpTree.take (v := .agg m.o.plain.toArray) (yieldsIf_load_mid rfl 35 _ rfl _ _ rfl m.o.plain _ ?_ Tryz.underlying35 rfl (pinfoL6 _)) ?_; (focus (intro wq hS; exact (riv_all (blk_below HA2.out hS hp1)).2.2.1)); simp only [Act.put, List.setIfInBounds_toArray, List.set_cons_zero, List.set_cons_succ]) | (refine wpTree.take (v := .agg (rpc m.x.p).toArray) (yieldsIf_load_mid rfl 37 _ rfl _ _ rfl (rpc m.x.p) _ ?_ Tryz.underlying37 rfl (rpinfo _)) ?_; (focus (intro wq hS; exact (riv_all (blk_below HA2.out hS hp1)).2.2.2.1)); simp only [Act.put, List.setIfInBounds_toArray, List.set_cons_zero, List.set_cons_succ]) | (refine wpTree.take (v := ?_) (Or.inl ⟨by rfl, ?_⟩) ?_; rotate_left; (focus (intro wq hS; obtain ⟨r0, rf, ro, rx, c0, c1, c2, c3, ct⟩ := riv_all (blk_below HA2.out hS hp1); go_simp; (try (with_reducible rfl)); done)); simp only [Act.put, List.setIfInBounds_toArray, List.set_cons_zero, List.set_cons_succ])))
    have hth := hyw4.thereT (o := 4) (n := (vl m.f).toArray.size) (by rw [List.size_toArray, List.size_toArray, riv_len, vl_len]; omega)
    refine wpTree.one (fun K hK => ?_)
    (try rw [if_pos (by rfl)])
    refine wp_store_mid 24 _ _ rfl p 4 (vl m.f).toArray rfl rfl hth (vinfo _) (vl_all _) ?_
    show K _ (w4.setCells p 4 (vl m.f))
    obtain ⟨w5, hw⟩ : ∃ w5, w5 = w4.setCells p 4 (vl m.f) := ⟨_, rfl⟩
    have hbw5 : Below p w2 w5 := by rw [hw]; exact setCells_below (Nat.le_refl _) _ _ _ hbw4
    have hyw5 : Blk w5 p 39 (Iv.rc { zI m.k with ca := m.ca, se := m.se, f := m.f }).toArray := by rw [hw]; exact riv_setF hyw4 m.f
    rw [← hw]
    clear hw hth
    refine hK.out _ _ hbw5 (fun _ => ?_)
    clear hK K
    (try simp only [Act.put, List.setIfInBounds_toArray, List.set_cons_zero, List.set_cons_succ])
    (repeat (first | (refine wpTree.take (v := undef) (Or.inr ⟨by rfl, rfl⟩) ?_; simp only [Act.put, List.setIfInBounds_toArray, List.set_cons_zero, List.set_cons_succ]) | (refine wpTree.take (v := .agg (vl m.f).toArray) (yieldsIf_load_mid rfl 24 _ rfl _ _ rfl (vl m.f) _ ?_ Tryz.underlying24 rfl (vinfoL _)) ?_; (focus (intro wq hS; exact (riv_all (blk_below HA2.out hS hp1)).2.1)); simp only [Act.put, List.setIfInBounds_toArray, List.set_cons_zero, List.set_cons_succ]) | (refine wpTree.take (v := .agg m.o.plain.toArray) (yieldsIf_load_mid rfl 35 _ rfl _ _ rfl m.o.plain _ ?_ Tryz.underlying35 rfl (pinfoL6 _)) ?_; (focus (intro wq hS; exact (riv_all (blk_below HA2.out hS hp1)).2.2.1)); simp only [Act.put, List.setIfInBounds_toArray, List.set_cons_zero, List.set_cons_succ]) | (refine wpTree.take (v := .agg (rpc m.x.p).toArray) (yieldsIf_load_mid rfl 37 _ rfl _ _ rfl (rpc m.x.p) _ ?_ Tryz.underlying37 rfl (rpinfo _)) ?_; (focus (intro wq hS; exact (riv_all (blk_below HA2.out hS hp1)).2.2.2.1)); simp only [Act.put, List.setIfInBounds_toArray, List.set_cons_zero, List.set_cons_succ]) | (refine wpTree.take (v := ?_) (Or.inl ⟨by rfl, ?_⟩) ?_; rotate_left; (focus (intro wq hS; obtain ⟨r0, rf, ro, rx, c0, c1, c2, c3, ct⟩ := riv_all (blk_below HA2.out hS hp1); go_simp; (try (with_reducible rfl)); done)); simp only [Act.put, List.setIfInBounds_toArray, List.set_cons_zero, List.set_cons_succ])))
    have hkA : w5.cell? ⟨p, 16, none⟩ = some (.int .u64 ((0 : Nat) : Int)) := (riv_all hyw5).2.2.2.2.2.2.2.2
    have hfA := hyw5.frozen 16
    refine wpTree.one (fun K hK => ?_)
    go_simp
    obtain ⟨w6, hw⟩ : ∃ w6, w6 = w5.setCell ⟨p, 16, none⟩ (.int .u64 (m.t : Nat)) := ⟨_, rfl⟩
    have hbw6 : Below p w2 w6 := by rw [hw]; exact Below.setCell (p := ⟨p, 16, none⟩) hbw5 (Nat.le_refl _) _
    have hyw6 : Blk w6 p 39 (Iv.rc { zI m.k with ca := m.ca, se := m.se, f := m.f, t := m.t }).toArray := by rw [hw]; exact riv_setT hyw5 m.t
    rw [← hw]
    clear hw hkA hfA
    refine hK.out _ _ hbw6 (fun _ => ?_)
    clear hK K
    (try simp only [Act.put, List.setIfInBounds_toArray, List.set_cons_zero, List.set_cons_succ])
    (repeat (first | (refine wpTree.take (v := undef) (Or.inr ⟨by rfl, rfl⟩) ?_; simp only [Act.put, List.setIfInBounds_toArray, List.set_cons_zero, List.set_cons_succ]) | (refine wpTree.take (v := .agg (vl m.f).toArray) (yieldsIf_load_mid rfl 24 _ rfl _ _ rfl (vl m.f) _ ?_ Tryz.underlying24 rfl (vinfoL _)) ?_; (focus (intro wq hS; exact (riv_all (blk_below HA2.out hS hp1)).2.1)); simp only [Act.put, List.setIfInBounds_toArray, List.set_cons_zero, List.set_cons_succ]) | (refine wpTree.take (v := .agg m.o.plain.toArray) (yieldsIf_load_mid rfl 35 _ rfl _ _ rfl m.o.plain _ ?_ Tryz.underlying35 rfl (pinfoL6 _)) ?_; (focus (intro wq hS; exact (riv_all (blk_below HA2.out hS hp1)).2.2.1)); simp only [Act.put, List.setIfInBounds_toArray, List.set_cons_zero, List.set_cons_succ]) | (refine wpTree.take (v := .agg (rpc m.x.p).toArray) (yieldsIf_load_mid rfl 37 _ rfl _ _ rfl (rpc m.x.p) _ ?_ Tryz.underlying37 rfl (rpinfo _)) ?_; (focus (intro wq hS; exact (riv_all (blk_below HA2.out hS hp1)).2.2.2.1)); simp only [Act.put, List.setIfInBounds_toArray, List.set_cons_zero, List.set_cons_succ]) | (refine wpTree.take (v := ?_) (Or.inl ⟨by rfl, ?_⟩) ?_; rotate_left; (focus (intro wq hS; obtain ⟨r0, rf, ro, rx, c0, c1, c2, c3, ct⟩ := riv_all (blk_below HA2.out hS hp1); go_simp; (try (with_reducible rfl)); done)); simp only [Act.put, List.setIfInBounds_toArray, List.set_cons_zero, List.set_cons_succ])))
    have hth := hyw6.thereT (o := 17) (n := (m.o.plain).toArray.size) (by rw [List.size_toArray, List.size_toArray, riv_len, plain_len]; omega)
    refine wpTree.one (fun K hK => ?_)
    (try rw [if_pos (by rfl)])
    refine wp_store_mid 35 _ _ rfl p 17 (m.o.plain).toArray rfl rfl hth (pinfoA6 _) (plain_one _) ?_
    show K _ (w6.setCells p 17 (m.o.plain))
    obtain ⟨w7, hw⟩ : ∃ w7, w7 = w6.setCells p 17 (m.o.plain) := ⟨_, rfl⟩
    have hbw7 : Below p w2 w7 := by rw [hw]; exact setCells_below (Nat.le_refl _) _ _ _ hbw6
    have hyw7 : Blk w7 p 39 (Iv.rc { zI m.k with ca := m.ca, se := m.se, f := m.f, t := m.t, o := m.o }).toArray := by rw [hw]; exact riv_setO hyw6 m.o
    rw [← hw]
    clear hw hth
    refine hK.out _ _ hbw7 (fun _ => ?_)
    clear hK K
    (try simp only [Act.put, List.setIfInBounds_toArray, List.set_cons_zero, List.set_cons_succ])
    (repeat (first | (refine wpTree.take (v := undef) (Or.inr ⟨by rfl, rfl⟩) ?_; simp only [Act.put, List.setIfInBounds_toArray, List.set_cons_zero, List.set_cons_succ]) | (refine wpTree.take (v := .agg (vl m.f).toArray) (yieldsIf_load_mid rfl 24 _ rfl _ _ rfl (vl m.f) _ ?_ Tryz.underlying24 rfl (vinfoL _)) ?_; (focus (intro wq hS; exact (riv_all (blk_below HA2.out hS hp1)).2.1)); simp only [Act.put, List.setIfInBounds_toArray, List.set_cons_zero, List.set_cons_succ]) | (refine wpTree.take (v := .agg m.o.plain.toArray) (yieldsIf_load_mid rfl 35 _ rfl _ _ rfl m.o.plain _ ?_ Tryz.underlying35 rfl (pinfoL6 _)) ?_; (focus (intro wq hS; exact (riv_all (blk_below HA2.out hS hp1)).2.2.1)); simp only [Act.put, List.setIfInBounds_toArray, List.set_cons_zero, List.set_cons_succ]) | (refine wpTree.take (v := .agg (rpc m.x.p).toArray) (yieldsIf_load_mid rfl 37 _ rfl _ _ rfl (rpc m.x.p) _ ?_ Tryz.underlying37 rfl (rpinfo _)) ?_; (focus (intro wq hS; exact (riv_all (blk_below HA2.out hS hp1)).2.2.2.1)); simp only [Act.put, List.setIfInBounds_toArray, List.set_cons_zero, List.set_cons_succ]) | (refine wpTree.take (v := ?_) (Or.inl ⟨by rfl, ?_⟩) ?_; rotate_left; (focus (intro wq hS; obtain ⟨r0, rf, ro, rx, c0, c1, c2, c3, ct⟩ := riv_all (blk_below HA2.out hS hp1); go_simp; (try (with_reducible rfl)); done)); simp only [Act.put, List.setIfInBounds_toArray, List.set_cons_zero, List.set_cons_succ])))
    refine wpTree.done ?_
    clear hHeld
    have HZ := Lib.hid (show Blk w7 p 39 (Iv.rc { zI m.k with ca := m.ca, se := m.se, f := m.f, t := m.t, o := m.o }).toArray from hyw7)
    have HBF := Lib.hid (HB2.out.trans (hbw7.mono (Nat.le_of_lt hp1)))
    have HAF := Lib.hid (blk_below HA2.out hbw7 hp1)
    clear hbw7 hyw7 hbw6 hyw6 hbw5 hyw5 hbw4 hyw4 hbw3 hyw3 hbwd hywd HA2 HB2 HY
    have ra := HAF.out.range
    obtain ⟨cb, hcb⟩ : ∃ cb, cb = cartB m := ⟨_, rfl⟩
    obtain ⟨my, hmy⟩ : ∃ my, my = rmayB m.o := ⟨_, rfl⟩
    have HCB := Lib.hid hcb
    have HMY := Lib.hid hmy
    clear hcb hmy
    cases cb with
    | false =>
      go_wp2_with (first | (refine wpList_load_midg (by rfl) 39 _ rfl _ _ rfl (Iv.rc ?_) _ ?_ Tryz.underlying39 rfl (rivinfo _) ?_; rotate_left; (focus assumption)) | (go_at_call 39; refine (ask26_any m _).mono ?_; rw [← HCB.out]; rintro e wk ⟨rfl, hb⟩; have HBK := Lib.hid (HBF.out.trans (hb.mono HBF.out.size)); have HZK := Lib.hid (HZ.out.next hb); have HAK := Lib.hid (HAF.out.next hb); have ro := (riv_all HAK.out).2.2.1; clear hb ra))
      go_ret
      exact ⟨by rw [← HCB.out]; rfl, HBK.out⟩
    | true =>
      cases sl with
      | false =>
        go_wp2_with (first | (refine wpList_load_midg (by rfl) 39 _ rfl _ _ rfl (Iv.rc ?_) _ ?_ Tryz.underlying39 rfl (rivinfo _) ?_; rotate_left; (focus assumption)) | (go_at_call 39; refine (ask26_any m _).mono ?_; rw [← HCB.out]; rintro e wk ⟨rfl, hb⟩; have HBK := Lib.hid (HBF.out.trans (hb.mono HBF.out.size)); have HZK := Lib.hid (HZ.out.next hb); have HAK := Lib.hid (HAF.out.next hb); have ro := (riv_all HAK.out).2.2.1; clear hb ra))
        go_ret
        exact ⟨by rw [← HSL.out, ← HCB.out]; first | rfl | simp, HBK.out⟩
      | true =>
        cases my with
        | false =>
          go_wp2_with (first | (refine wpList_load_midg (by rfl) 35 _ rfl _ _ rfl (OpR.plain ?_) _ ?_ Tryz.underlying35 rfl (pinfoL6 _) ?_; rotate_left; (focus assumption)) | (refine wpList_load_midg (by rfl) 39 _ rfl _ _ rfl (Iv.rc ?_) _ ?_ Tryz.underlying39 rfl (rivinfo _) ?_; rotate_left; (focus assumption)) | (go_at_call 39; refine (ask26_any m _).mono ?_; rw [← HCB.out]; rintro e wk ⟨rfl, hb⟩; have HBK := Lib.hid (HBF.out.trans (hb.mono HBF.out.size)); have HZK := Lib.hid (HZ.out.next hb); have HAK := Lib.hid (HAF.out.next hb); have ro := (riv_all HAK.out).2.2.1; clear hb ra) | (go_at_call 40; refine (rmay6_any m.o _).mono ?_; rw [← HMY.out]; rintro e wm ⟨rfl, hb⟩; have HBF2 := Lib.hid (HBK.out.trans (hb.mono HBK.out.size)); have HZ2 := Lib.hid (HZK.out.next hb); have HA3 := Lib.hid (HAK.out.next hb); clear hb ro))
          go_ret
          exact ⟨by rw [← HSL.out, ← HCB.out, ← HMY.out]; first | rfl | simp, HBF2.out⟩
        | true =>
          go_upto_region 19 with (first | (refine wpList_load_midg (by rfl) 35 _ rfl _ _ rfl (OpR.plain ?_) _ ?_ Tryz.underlying35 rfl (pinfoL6 _) ?_; rotate_left; (focus assumption)) | (refine wpList_load_midg (by rfl) 39 _ rfl _ _ rfl (Iv.rc ?_) _ ?_ Tryz.underlying39 rfl (rivinfo _) ?_; rotate_left; (focus assumption)) | (go_at_call 39; refine (ask26_any m _).mono ?_; rw [← HCB.out]; rintro e wk ⟨rfl, hb⟩; have HBK := Lib.hid (HBF.out.trans (hb.mono HBF.out.size)); have HZK := Lib.hid (HZ.out.next hb); have HAK := Lib.hid (HAF.out.next hb); have ro := (riv_all HAK.out).2.2.1; clear hb ra) | (go_at_call 40; refine (rmay6_any m.o _).mono ?_; rw [← HMY.out]; rintro e wm ⟨rfl, hb⟩; have HBF2 := Lib.hid (HBK.out.trans (hb.mono HBK.out.size)); have HZ2 := Lib.hid (HZK.out.next hb); have HA3 := Lib.hid (HAK.out.next hb); clear hb ro))
          have HBF := Lib.hid HBF2.out
          have HZ := Lib.hid HZ2.out
          have HAF := Lib.hid HA3.out
          clear HBF2 HZ2 HA3 HBK HZK HAK
          have rz := HZ.out.range
          have ra := HAF.out.range
          have hq := fun w => eq_rin m { zI m.k with ca := m.ca, se := m.se, f := m.f, t := m.t, o := m.o } H256.out (by intro y hy; cases hy) w
          go_wp2_with (first | (refine wpList_load_midg (by rfl) 39 _ rfl _ _ rfl (Iv.rc ?_) _ ?_ Tryz.underlying39 rfl (rivinfo _) ?_; rotate_left; (focus assumption)))
          go_ret
          exact ⟨by rw [← HSL.out, ← HCB.out, ← HMY.out]; first | rfl | simp, HBF.out⟩
set_option maxRecDepth 20000 in
set_option maxHeartbeats 8000000 in
theorem rr_pac (m : Iv) (h256 : ∀ y ∈ m.x.p.bs, y < 256) (W : World) (e1 : (m.k == 1) = false) (e2 : (m.k == 2) = false) (e3 : (m.k == 3) = false) (e4 : (m.k == 4) = false) (e5 : (m.k == 5) = false) (e6 : (m.k == 6) = true) : Calls Tryz.prog 12 #[.agg m.rc.toArray] W fun e W' => e = .returned (.bool (Pk.rightB m.x.p && sameI m { zI m.k with x := ⟨m.x.p, none, 0⟩ })) ∧ Below W.heap.size W W' := by
  have bA := Blk.new W 39 m.rc.toArray
  have hB0 := (Below.refl W.heap.size W).alloc (Nat.le_refl _) (.cells m.rc.toArray 39)
  obtain ⟨w1, hw1⟩ : ∃ w1, w1 = W.alloc (.cells m.rc.toArray 39) := ⟨_, rfl⟩
  have hs1 : w1.heap.size = W.heap.size + 1 := by rw [hw1]; simp
  rw [← hw1] at bA hB0
  have HW1 := Lib.hid hw1
  have HA := Lib.hid bA
  have HB := Lib.hid hB0
  have HS1 := Lib.hid hs1
  have H256 := Lib.hid h256
  obtain ⟨-, -, -, -, c0, c1, c2, c3, ct⟩ := riv_all bA
  clear bA hB0 hw1 hs1 h256
  go_enter Tryz.func12, Tryz.ntmps12
  go_upto_region 1 with fail
  rw [← HW1.out]
  clear HW1
  go_upto_region 2 with (first | (refine wpList_build_lit (zI m.k).rc.toArray rfl 39 _ rfl (built_zIr m.k) ?_) | (refine wpList_store_blk rfl 39 _ _ rfl w1.heap.size 39 zrinA (zI m.k).rc.toArray rfl rfl (Blk.new' rfl) (rivinfoA _) (zrin_siz _) (riv_one _) ?_; intro hy))
  have hbn : Below w1.heap.size w1 ((w1.alloc (.cells zrinA 39)).setRow w1.heap.size (zI m.k).rc.toArray) := below_setRow ((Below.refl _ _).alloc (Nat.le_refl _) _) (Nat.le_refl _) _
  obtain ⟨w2, hw2⟩ : ∃ w2, w2 = (w1.alloc (.cells zrinA 39)).setRow w1.heap.size (zI m.k).rc.toArray := ⟨_, rfl⟩
  rw [← hw2] at hbn hy ⊢
  obtain ⟨p, hp⟩ : ∃ p, p = w1.heap.size := ⟨_, rfl⟩
  rw [← hp] at hy ⊢
  have hpS : p = W.heap.size + 1 := hp.trans HS1.out
  have HA2 := Lib.hid (HA.out.next hbn)
  have HB2 := Lib.hid (HB.out.trans (hbn.mono HB.out.size))
  have HY := Lib.hid hy
  have hp1 : W.heap.size < p := by omega
  clear hw2 hp hbn hy HA HB HS1 hpS c0 c1 c2 c3 ct
  obtain ⟨-, -, -, -, -, -, c2, -, -⟩ := riv_all HA2.out
  (try simp only [Act.put, List.setIfInBounds_toArray, List.set_cons_zero, List.set_cons_succ])
  go_cut [4] from 9 to 16 (fun vx wx => vx = .bool (decide (0 < m.se) && decide (m.se < 13)) ∧ w2 = wx)
  case first =>
    cases hd1 : decide (0 < m.se) with
    | false =>
      go_wp2_with fail
      go_meet
      exact ⟨by simp [hd1], rfl⟩
    | true =>
      cases hd2 : decide (m.se < 13) with
      | false =>
        go_wp2_with fail
        go_meet
        exact ⟨by simp [hd1, hd2], rfl⟩
      | true =>
        go_wp2_with fail
        go_meet
        exact ⟨by simp [hd1, hd2], rfl⟩
  case rest =>
    obtain ⟨rfl, rfl⟩ := hcut
    obtain ⟨sl, hsl⟩ : ∃ sl, sl = (decide (0 < m.se) && decide (m.se < 13)) := ⟨_, rfl⟩
    rw [← hsl]
    have HSL := Lib.hid hsl
    clear hsl c2
    obtain ⟨-, -, -, -, c0, -, -, -, -⟩ := riv_all HA2.out
    go_upto_region 18 with fail
    clear c0
    refine wp_region_tree (S := (fun w' => Below p w2 w')) (.take 0 (.take 1 (.take 2 (.take 3 (.take 5 (.one 4 (.one 6 (.take 7 .nil)))))))) 9999 (by kernel_rfl) (by kernel_rfl) (by kernel_rfl) (by kernel_rfl) (by kernel_rfl) (fun _ _ d _ _ h => by cases d <;> exact h) ((Below.refl _ _).drew) (fun hHeld => ?_); simp only [Tree.map, List.getElem?_toArray, List.getElem?_cons_zero, List.getElem?_cons_succ]
    (repeat (first | (refine wpTree.take (v := undef) (Or.inr ⟨by rfl, rfl⟩) ?_; simp only [Act.put, List.setIfInBounds_toArray, List.set_cons_zero, List.set_cons_succ]) | (refine wpTree.take (v := .agg (vl m.f).toArray) (yieldsIf_load_mid rfl 24 _ rfl _ _ rfl (vl m.f) _ ?_ Tryz.underlying24 rfl (vinfoL _)) ?_; (focus (intro wq hS; exact (riv_all (blk_below HA2.out hS hp1)).2.1)); simp only [Act.put, List.setIfInBounds_toArray, List.set_cons_zero, List.set_cons_succ]) | (refine wpTree.take (v := .agg m.o.plain.toArray) (yieldsIf_load_mid rfl 35 _ rfl _ _ rfl m.o.plain _ ?_ Tryz.underlying35 rfl (pinfoL6 _)) ?_; (focus (intro wq hS; exact (riv_all (blk_below HA2.out hS hp1)).2.2.1)); simp only [Act.put, List.setIfInBounds_toArray, List.set_cons_zero, List.set_cons_succ]) | (refine wpTree.take (v := .agg (rpc m.x.p).toArray) (yieldsIf_load_mid rfl 37 _ rfl _ _ rfl (rpc m.x.p) _ ?_ Tryz.underlying37 rfl (rpinfo _)) ?_; (focus (intro wq hS; exact (riv_all (blk_below HA2.out hS hp1)).2.2.2.1)); simp only [Act.put, List.setIfInBounds_toArray, List.set_cons_zero, List.set_cons_succ]) | (refine wpTree.take (v := ?_) (Or.inl ⟨by rfl, ?_⟩) ?_; rotate_left; (focus (intro wq hS; obtain ⟨r0, rf, ro, rx, c0, c1, c2, c3, ct⟩ := riv_all (blk_below HA2.out hS hp1); go_simp; (try (with_reducible rfl)); done)); simp only [Act.put, List.setIfInBounds_toArray, List.set_cons_zero, List.set_cons_succ])))
    obtain ⟨wd, hwd⟩ : ∃ wd, wd = w2.drew := ⟨_, rfl⟩
    have hbwd : Below p w2 wd := by rw [hwd]; exact (Below.refl _ _).drew
    have hywd : Blk wd p 39 (Iv.rc (zI m.k)).toArray := by rw [hwd]; exact HY.out.drew
    rw [← hwd]
    clear hwd
    refine wpTree.one (fun K hK => ?_)
    go_simp
    go_at_call 41
    refine (rright15_any m.x.p _ H256.out).mono ?_
    rintro e w3 ⟨rfl, hb⟩
    have hplt : p < wd.heap.size := hywd.lt
    have hyw3 := hywd.next hb
    have hbw3 : Below p w2 w3 := hbwd.trans (hb.mono (by have := hbwd.size; have := HY.out.lt; omega))
    refine hK.out _ _ hbw3 (fun _ => ?_)
    clear hK K hb hplt
    (try simp only [Act.put, List.setIfInBounds_toArray, List.set_cons_zero, List.set_cons_succ])
    (repeat (first | (refine wpTree.take (v := undef) (Or.inr ⟨by rfl, rfl⟩) ?_; simp only [Act.put, List.setIfInBounds_toArray, List.set_cons_zero, List.set_cons_succ]) | (refine wpTree.take (v := .agg (vl m.f).toArray) (yieldsIf_load_mid rfl 24 _ rfl _ _ rfl (vl m.f) _ ?_ Tryz.underlying24 rfl (vinfoL _)) ?_; (focus (intro wq hS; exact (riv_all (blk_below HA2.out hS hp1)).2.1)); simp only [Act.put, List.setIfInBounds_toArray, List.set_cons_zero, List.set_cons_succ]) | (refine wpTree.take (v := .agg m.o.plain.toArray) (yieldsIf_load_mid rfl 35 _ rfl _ _ rfl m.o.plain _ ?_ Tryz.underlying35 rfl (pinfoL6 _)) ?_; (focus (intro wq hS; exact (riv_all (blk_below HA2.out hS hp1)).2.2.1)); simp only [Act.put, List.setIfInBounds_toArray, List.set_cons_zero, List.set_cons_succ]) | (refine wpTree.take (v := .agg (rpc m.x.p).toArray) (yieldsIf_load_mid rfl 37 _ rfl _ _ rfl (rpc m.x.p) _ ?_ Tryz.underlying37 rfl (rpinfo _)) ?_; (focus (intro wq hS; exact (riv_all (blk_below HA2.out hS hp1)).2.2.2.1)); simp only [Act.put, List.setIfInBounds_toArray, List.set_cons_zero, List.set_cons_succ]) | (refine wpTree.take (v := ?_) (Or.inl ⟨by rfl, ?_⟩) ?_; rotate_left; (focus (intro wq hS; obtain ⟨r0, rf, ro, rx, c0, c1, c2, c3, ct⟩ := riv_all (blk_below HA2.out hS hp1); go_simp; (try (with_reducible rfl)); done)); simp only [Act.put, List.setIfInBounds_toArray, List.set_cons_zero, List.set_cons_succ])))
    have hth := hyw3.thereT (o := 21) (n := (rpc m.x.p).toArray.size) (by rw [List.size_toArray, List.size_toArray, riv_len, rpc_len]; omega)
    refine wpTree.one (fun K hK => ?_)
    (try rw [if_pos (by rfl)])
    refine wp_store_mid 37 _ _ rfl p 21 (rpc m.x.p).toArray rfl rfl hth (rpinfoA _) (rpc_one _) ?_
    show K _ (w3.setCells p 21 (rpc m.x.p))
    obtain ⟨w4, hw⟩ : ∃ w4, w4 = w3.setCells p 21 (rpc m.x.p) := ⟨_, rfl⟩
    have hbw4 : Below p w2 w4 := by rw [hw]; exact setCells_below (Nat.le_refl _) _ _ _ hbw3
    have hyw4 : Blk w4 p 39 (Iv.rc { zI m.k with x := ⟨m.x.p, none, 0⟩ }).toArray := by rw [hw]; exact riv_setX hyw3 m.x.p
    rw [← hw]
    clear hw hth
    refine hK.out _ _ hbw4 (fun _ => ?_)
    clear hK K
    (try simp only [Act.put, List.setIfInBounds_toArray, List.set_cons_zero, List.set_cons_succ])
    (repeat (first | (refine wpTree.take (v := undef) (Or.inr ⟨by rfl, rfl⟩) ?_; simp only [Act.put, List.setIfInBounds_toArray, List.set_cons_zero, List.set_cons_succ]) | (refine wpTree.take (v := .agg (vl m.f).toArray) (yieldsIf_load_mid rfl 24 _ rfl _ _ rfl (vl m.f) _ ?_ Tryz.underlying24 rfl (vinfoL _)) ?_; (focus (intro wq hS; exact (riv_all (blk_below HA2.out hS hp1)).2.1)); simp only [Act.put, List.setIfInBounds_toArray, List.set_cons_zero, List.set_cons_succ]) | (refine wpTree.take (v := .agg m.o.plain.toArray) (yieldsIf_load_mid rfl 35 _ rfl _ _ rfl m.o.plain _ ?_ Tryz.underlying35 rfl (pinfoL6 _)) ?_; (focus (intro wq hS; exact (riv_all (blk_below HA2.out hS hp1)).2.2.1)); simp only [Act.put, List.setIfInBounds_toArray, List.set_cons_zero, List.set_cons_succ]) | (refine wpTree.take (v := .agg (rpc m.x.p).toArray) (yieldsIf_load_mid rfl 37 _ rfl _ _ rfl (rpc m.x.p) _ ?_ Tryz.underlying37 rfl (rpinfo _)) ?_; (focus (intro wq hS; exact (riv_all (blk_below HA2.out hS hp1)).2.2.2.1)); simp only [Act.put, List.setIfInBounds_toArray, List.set_cons_zero, List.set_cons_succ]) | (refine wpTree.take (v := ?_) (Or.inl ⟨by rfl, ?_⟩) ?_; rotate_left; (focus (intro wq hS; obtain ⟨r0, rf, ro, rx, c0, c1, c2, c3, ct⟩ := riv_all (blk_below HA2.out hS hp1); go_simp; (try (with_reducible rfl)); done)); simp only [Act.put, List.setIfInBounds_toArray, List.set_cons_zero, List.set_cons_succ])))
    refine wpTree.done ?_
    clear hHeld
    have HZ := Lib.hid (show Blk w4 p 39 (Iv.rc { zI m.k with x := ⟨m.x.p, none, 0⟩ }).toArray from hyw4)
    have HBF := Lib.hid (HB2.out.trans (hbw4.mono (Nat.le_of_lt hp1)))
    have HAF := Lib.hid (blk_below HA2.out hbw4 hp1)
    clear hbw4 hyw4 hbw3 hyw3 hbwd hywd HA2 HB2 HY
    obtain ⟨rb, hrb⟩ : ∃ rb, rb = Pk.rightB m.x.p := ⟨_, rfl⟩
    have HRB := Lib.hid hrb
    rw [← hrb]
    clear hrb
    cases rb with
    | false =>
      go_wp2_with fail
      go_ret
      exact ⟨by rw [← HRB.out]; rfl, HBF.out⟩
    | true =>
      have rz := HZ.out.range
      have ra := HAF.out.range
      have hq := fun w => eq_rin m { zI m.k with x := ⟨m.x.p, none, 0⟩ } H256.out (H256.out) w
      go_wp2_with (first | (refine wpList_load_midg (by rfl) 39 _ rfl _ _ rfl (Iv.rc ?_) _ ?_ Tryz.underlying39 rfl (rivinfo _) ?_; rotate_left; (focus assumption)))
      go_ret
      exact ⟨by rw [← HRB.out]; first | rfl | simp, HBF.out⟩
end In
end Go.Proofs.YtgnfachjobohoaaGreat
namespace Go.Proofs.YtgnfachjobohoaaGreat
open Go.RowKit
set_option linter.unusedSimpArgs false
set_option linter.unusedVariables false
namespace In
theorem rright26_any (m : Iv) (h256 : ∀ y ∈ m.x.p.bs, y < 256) (W : World) : Calls Tryz.prog 12 #[.agg m.rc.toArray] W fun e W' => e = .returned (.bool (rightI m)) ∧ Below W.heap.size W W' := by
  have hm : ∀ {b : Bool} {Z : Iv}, sameI m Z = sameI m (partsI m) → b = bodyI m → (b && sameI m Z) = rightI m := by
    intro b Z h1 h2
    rw [h1, h2]; unfold rightI; exact Bool.and_comm _ _
  have conv : ∀ {b : Bool}, b = rightI m → Calls Tryz.prog 12 #[.agg m.rc.toArray] W (fun e W' => e = .returned (.bool b) ∧ Below W.heap.size W W') → Calls Tryz.prog 12 #[.agg m.rc.toArray] W fun e W' => e = .returned (.bool (rightI m)) ∧ Below W.heap.size W W' := by
    intro b h1 h2; rwa [h1] at h2
  have ws : ∀ n : Int, (decide (0 < n) && decide (n < 13)) = withinB n 1 12 := fun n => by
    unfold withinB
    rw [show decide (0 < n) = decide (1 ≤ n) from decide_eq_decide.2 (by omega), show decide (n < 13) = decide (n ≤ 12) from decide_eq_decide.2 (by omega)]
  have wk : ∀ n : Int, 1 ≤ n → n ≤ 6 → withinB n 1 6 = true := fun n h1 h2 => by
    unfold withinB; rw [decide_eq_true h1, decide_eq_true h2]; rfl
  rcases kd_any m.k with ⟨h0, h1, h2, h3, h4, h5⟩ | ⟨h0, h1, h2, h3, h4, h5⟩ | ⟨h0, h1, h2, h3, h4, h5⟩ | ⟨h0, h1, h2, h3, h4, h5⟩ | ⟨h0, h1, h2, h3, h4, h5⟩ | ⟨h0, h1, h2, h3, h4, h5⟩
  · refine conv (hm (by unfold partsI zI; rw [h1, h2, h3, h4, h5]; rfl) ?_) (rr_ord m h256 W (by simp [h0]) (by simp [h0]) (by simp [h0]) (by simp [h0]) (by simp [h0]) (by simp [h0]))
    unfold bodyI
    rw [h1, h2, h3, h4, h5, wk _ (by omega) (by omega), ws, rmayB_eq]
    generalize withinB m.se 1 12 = b; generalize cartB m = a; generalize withinB m.no 1 12 = c; generalize mayO m.o = d; generalize Pk.rightB m.x.p = f
    revert a b c d f; decide
  · have key : withinB m.se 1 12 = bodyI m := by
      unfold bodyI
      rw [h1, h2, h3, h4, h5, wk _ (by omega) (by omega)]
      generalize withinB m.se 1 12 = b; generalize cartB m = a; generalize withinB m.no 1 12 = c; generalize mayO m.o = d; generalize Pk.rightB m.x.p = f
      revert a b c d f; decide
    rcases h0 with h0 | h0
    · exact conv (hm (by unfold partsI zI; rw [h1, h2, h3, h4, h5]; rfl) ((ws _).trans key)) (rr_sel2 m h256 W (by simp [h0]) (by simp [h0]) (by simp [h0]) (by simp [h0]) (by simp [h0]) (by simp [h0]))
    · exact conv (hm (by unfold partsI zI; rw [h1, h2, h3, h4, h5]; rfl) ((ws _).trans key)) (rr_sel4 m h256 W (by simp [h0]) (by simp [h0]) (by simp [h0]) (by simp [h0]) (by simp [h0]) (by simp [h0]))
  · refine conv (hm (by unfold partsI zI; rw [h1, h2, h3, h4, h5]; rfl) ?_) (rr_joi m h256 W (by simp [h0]) (by simp [h0]) (by simp [h0]) (by simp [h0]) (by simp [h0]) (by simp [h0]))
    unfold bodyI
    rw [h1, h2, h3, h4, h5, wk _ (by omega) (by omega), ws, ws]
    generalize withinB m.se 1 12 = b; generalize cartB m = a; generalize withinB m.no 1 12 = c; generalize mayO m.o = d; generalize Pk.rightB m.x.p = f
    revert a b c d f; decide
  · refine conv (hm (by unfold partsI zI; rw [h1, h2, h3, h4, h5]; rfl) ?_) (rr_chk m h256 W (by simp [h0]) (by simp [h0]) (by simp [h0]) (by simp [h0]) (by simp [h0]) (by simp [h0]))
    unfold bodyI
    rw [h1, h2, h3, h4, h5, wk _ (by omega) (by omega)]
    generalize withinB m.se 1 12 = b; generalize cartB m = a; generalize withinB m.no 1 12 = c; generalize mayO m.o = d; generalize Pk.rightB m.x.p = f
    revert a b c d f; decide
  · refine conv (hm (by unfold partsI zI sameI numsI; rw [h1, h2, h3, h4, h5]; rfl) ?_) (rr_pac m h256 W (by simp [h0]) (by simp [h0]) (by simp [h0]) (by simp [h0]) (by simp [h0]) (by simp [h0]))
    unfold bodyI
    rw [h1, h2, h3, h4, h5, wk _ (by omega) (by omega)]
    generalize withinB m.se 1 12 = b; generalize cartB m = a; generalize withinB m.no 1 12 = c; generalize mayO m.o = d; generalize Pk.rightB m.x.p = f
    revert a b c d f; decide
  · refine conv ?_ (rr_no m h256 W (by simp; omega) (by simp; omega) (by simp; omega) (by simp; omega) (by simp; omega) (by simp; omega))
    unfold rightI bodyI
    rw [show withinB m.k 1 6 = false from by unfold withinB; simp; omega]
    simp
end In
end Go.Proofs.YtgnfachjobohoaaGreat
namespace Go.Proofs.YtgnfachjobohoaaGreat
open Go.RowKit
set_option linter.unusedSimpArgs false
set_option linter.unusedVariables false
namespace In
structure FinP (R : Except Int (Iv × List Nat)) (bs : List Nat) (p : Nat) (e : Int) (m : Iv) : Prop where
  yes : e = 0 → bs.drop p = [] → rightI m = true → R = .ok (m, [])
  bad : rightI m = false → ∀ x, R ≠ .ok (x, [])
  no : ∀ z, EndPost z e bs p → z ≠ 0 → ∀ x, R ≠ .ok (x, [])
  by8 : ∀ y ∈ m.x.p.bs, y < 256
theorem FinP.of {R : Except Int (Iv × List Nat)} {bs : List Nat} {p : Nat} {e : Int} {m : Iv} (h : G2 R bs p e (mkI m)) (hb : ∀ y ∈ m.x.p.bs, y < 256) : FinP R bs p e m where
  yes he hd hr := by rw [h.1 he, hd]; unfold mkI; rw [if_pos hr]
  bad hr x hx := by
    by_cases he : e = 0
    · rw [h.1 he] at hx; unfold mkI at hx; rw [if_neg (by simp [hr])] at hx; cases hx
    · obtain ⟨y, hy⟩ := h.2 he; rw [hy] at hx; cases hx
  no z hz hz0 x hx := by
    by_cases he : e = 0
    · rw [h.1 he] at hx
      unfold mkI at hx
      split at hx
      · simp only [Except.ok.injEq, Prod.mk.injEq] at hx
        exact hz0 (hz.2 ⟨he, hx.2⟩)
      · cases hx
    · obtain ⟨y, hy⟩ := h.2 he; rw [hy] at hx; cases hx
  by8 := hb
abbrev RdSi := RdS 39 zrinA
/-- What the document's read hands back. -/
def RdP (bs : List Nat) (v : Value) (ok : Bool) : Prop := (ok = true ∧ ∃ m : Iv, inP bs = .ok (m, []) ∧ bs.length ≤ 1800 ∧ v = .agg m.rc.toArray ∧ ∀ y ∈ m.x.p.bs, y < 256) ∨ (ok = false ∧ ((∀ m, inP bs ≠ .ok (m, [])) ∨ 1800 < bs.length) ∧ v = .agg (zI 0).rc.toArray)
theorem z256 : ∀ y ∈ zx.p.bs, y < 256 := fun y hy => by cases hy
set_option maxRecDepth 20000 in
set_option maxHeartbeats 32000000 in
theorem rread26_any (A : Option Addr) (cc : Nat) (bs : List Nat) (hlen : bs.length ≤ 140737488355328) (hc : bs.length ≤ cc) (hby : ∀ x ∈ bs, x < 256) (W : World) (hb : Byt.ByR W A bs) :
    Calls Tryz.prog 10 #[.slice A bs.length cc] W fun r W' => ∃ v ok, r = .returned (.tuple #[v, .bool ok]) ∧ Below W.heap.size W W' ∧ RdP bs v ok := by
  have b1 := (Below.refl W.heap.size W).alloc (Nat.le_refl _) (.cells zrinA 39)
  have hg := (Blk.new W 39 zrinA).alloc (.cells #[.slice A bs.length cc, .int .i64 0, .int .i64 0] 70)
  have hsz : (W.alloc (.cells zrinA 39)).heap.size = W.heap.size + 1 := by simp
  have b2 := b1.alloc (by rw [hsz]; omega) (.cells #[.slice A bs.length cc, .int .i64 0, .int .i64 0] 70)
  have hk := Blk.new (W.alloc (.cells zrinA 39)) 70 #[.slice A bs.length cc, .int .i64 0, .int .i64 0]
  rw [hsz] at hk
  obtain ⟨w0, hw0⟩ : ∃ w0, w0 = (W.alloc (.cells zrinA 39)).alloc (.cells #[.slice A bs.length cc, .int .i64 0, .int .i64 0] 70) := ⟨_, rfl⟩
  rw [← hw0] at hg hk b2
  have HLOW := Lib.hid (show bs ≠ [] → ∀ b q, A = some ⟨b, q, none⟩ → b < W.heap.size from fun hne b q e => by
    obtain ⟨b', q', e', h1', _⟩ := hb.resolve_left hne
    rw [e] at e'
    cases e'
    exact h1')
  have HS := Lib.hid (show RS w0 (W.heap.size + 1) A cc bs 0 0 from ⟨hk, by
    by_cases hbs : bs = []
    · exact Or.inl hbs
    · obtain ⟨b, q, e, h1, h2⟩ := (hb.next b2).resolve_left hbs
      obtain ⟨b', q', e', h1', _⟩ := hb.resolve_left hbs
      rw [e] at e'
      cases e'
      exact Or.inr ⟨b, q, e, h1, by omega, h2⟩, Nat.zero_le _⟩)
  have HG := Lib.hid hg
  have HB := Lib.hid b2
  obtain ⟨R, hR⟩ : ∃ R, R = inP bs := ⟨_, rfl⟩
  have HG2 := Lib.hid (show G2 R bs 0 0 (bindP (smallP 6) fun k => kindP (k : Nat)) from ⟨fun _ => by rw [hR, inP_def, List.drop_zero], fun h => absurd rfl h⟩)
  have HRP := Lib.hid (show ∀ v ok, ((ok = true ∧ ∃ m : Iv, R = .ok (m, []) ∧ bs.length ≤ 1800 ∧ v = .agg m.rc.toArray ∧ ∀ y ∈ m.x.p.bs, y < 256) ∨ (ok = false ∧ ((∀ m, R ≠ .ok (m, [])) ∨ 1800 < bs.length) ∧ v = .agg (zI 0).rc.toArray)) → RdP bs v ok from fun v ok h => by rw [hR] at h; exact h)
  have HLC := Lib.hid (And.intro hlen (And.intro hc hby))
  obtain ⟨L, hL⟩ : ∃ L, L = bs.length := ⟨_, rfl⟩
  have HL := Lib.hid hL
  rw [← hL] at hw0 ⊢
  clear b1 hg hsz b2 hk hb hR hL hlen hc
  go_enter Tryz.func10, Tryz.ntmps10
  go_upto_region 2 with fail
  rw [← hw0]
  clear hw0
  obtain ⟨k, hkE⟩ : ∃ k, k = W.heap.size + 1 := ⟨_, rfl⟩
  obtain ⟨g, hgE⟩ : ∃ g, g = W.heap.size := ⟨_, rfl⟩
  have HKE := Lib.hid (And.intro hkE hgE)
  have HS := Lib.hid (show RS w0 k A cc bs 0 0 by rw [hkE]; exact HS.out)
  have HG := Lib.hid (show Blk w0 g 39 zrinA by rw [hgE]; exact HG.out)
  (try rw [← hkE])
  (try rw [← hgE])
  clear hkE hgE hby
  go_wp2_with fail
  refine (refsmall_any k cc A bs HLC.out.1 HLC.out.2.2 6 (by decide) 0 0 w0 HS.out).mono ?_
  rintro r w1 ⟨n, p1, d1, rfl, hS, hO, hn10, hP⟩
  have HK1 := Lib.hid (HG2.out.step hP)
  have HB1 := Lib.hid (HB.out.trans (hO.belowB (B := W.heap.size) (by have := HKE.out.1; omega) HB.out.size))
  have HG1 := Lib.hid (hO.blk HG.out (by have := HKE.out.1; have := HKE.out.2; omega))
  have HS1 := Lib.hid hS
  have HN10 := Lib.hid hn10
  clear hP hO hS HS HB HG HG2 hn10
  go_upto_region 3 with (first | (refine wpList_build_lit (zI (n : Nat)).rc.toArray rfl 39 _ rfl (built_zIr (n : Nat)) ?_) | (refine wpList_store_blk rfl 39 _ _ rfl w1.heap.size 39 zrinA (zI (n : Nat)).rc.toArray rfl rfl (Blk.new' rfl) (rivinfoA _) (zrin_siz _) (riv_one _) ?_; intro hy))
  have hbn : Below w1.heap.size w1 ((w1.alloc (.cells zrinA 39)).setRow w1.heap.size (zI (n : Nat)).rc.toArray) := below_setRow ((Below.refl _ _).alloc (Nat.le_refl _) _) (Nat.le_refl _) _
  obtain ⟨w2, hw2⟩ : ∃ w2, w2 = (w1.alloc (.cells zrinA 39)).setRow w1.heap.size (zI (n : Nat)).rc.toArray := ⟨_, rfl⟩
  rw [← hw2] at hbn hy ⊢
  obtain ⟨c, hcE⟩ : ∃ c, c = w1.heap.size := ⟨_, rfl⟩
  rw [← hcE] at hy ⊢
  have HD2 := Lib.hid (show RdSi W k g c A cc bs w2 p1 d1 (zI (n : Nat)).rc from by
    have h1 := HKE.out.1
    have h2 := HKE.out.2
    have h3 := HB1.out.size
    have h4 := HS1.out.1.lt
    have h5 := HG1.out.lt
    exact ⟨HS1.out.next hbn, HG1.out.next hbn, hy, HB1.out.trans (hbn.mono HB1.out.size), by omega, by omega, by omega, by omega, by omega, fun hne b q e => by have := HLOW.out hne b q e; omega⟩)
  have c0 : World.cell? w2 ⟨c, 0, none⟩ = some (.int .i64 ((n : Nat) : Int)) := (riv_all HD2.out.c0).2.2.2.2.1
  clear hw2 hbn hy hcE HS1 HG1 HB1
  have hcs : n = 1 ∨ (n = 2 ∨ n = 4) ∨ n = 3 ∨ n = 5 ∨ n = 6 ∨ n = 0 := by have := HN10.out; omega
  rcases hcs with h0 | h0 | h0 | h0 | h0 | h0
  · skip
    have e1 : (((n : Nat) : Int) == 1) = true := by simp [h0]
    have e2 : (((n : Nat) : Int) == 2) = false := by simp [h0]
    have e3 : (((n : Nat) : Int) == 3) = false := by simp [h0]
    have e4 : (((n : Nat) : Int) == 4) = false := by simp [h0]
    have e5 : (((n : Nat) : Int) == 5) = false := by simp [h0]
    have e6 : (((n : Nat) : Int) == 6) = false := by simp [h0]
    have HK2 := Lib.hid (show G2 R bs p1 d1 (bindP (smallP 12) fun ca => bindP (smallP 12) fun se => bindP vectorP fun l => bindP (numP true 0) fun t => bindP opP fun o => mkI { zI (n : Nat) with ca := (ca : Nat), se := (se : Nat), f := lv l, t := t, o := o }) from HK1.out.eq fun t => by unfold kindP; rw [show hP (n : Nat) = false from by simp [hP, h0], show hN (n : Nat) = false from by simp [hN, h0], show hO (n : Nat) = true from by simp [hO, h0], show hC (n : Nat) = true from by simp [hC, h0], show hS (n : Nat) = true from by simp [hS, withinB, h0]]; rfl)
    clear HK1
    go_wp2_with fail
    refine (refsmall_any k cc A bs HLC.out.1 HLC.out.2.2 12 (by decide) p1 d1 w2 HD2.out.s).mono ?_
    rintro r w3 ⟨ca, p2, d2, rfl, hS, hO, _, hP⟩
    have HK3 := Lib.hid (HK2.out.step hP)
    have HD3 := Lib.hid (HD2.out.read hO hS)
    clear c0
    clear hP hO hS HD2 HK2
    have hkA : w3.cell? ⟨c, 1, none⟩ = some (.int .i64 0) := (riv_all HD3.out.c0).2.2.2.2.2.1
    have hfA := HD3.out.c0.frozen 1
    have HD4 := Lib.hid (show RdSi W k g c A cc bs (w3.setCell ⟨c, 1, none⟩ (.int .i64 (ca : Nat))) p2 d2 (Iv.rc { zI (n : Nat) with ca := (ca : Nat) }) from HD3.out.put ((Off.refl _ _).set _ _) (riv_setH HD3.out.c0 (by omega) rfl rfl rfl rfl rfl))
    go_upto_region 6 with fail
    obtain ⟨w4, hw⟩ : ∃ w4, w4 = w3.setCell ⟨c, 1, none⟩ (.int .i64 (ca : Nat)) := ⟨_, rfl⟩
    rw [← hw] at HD4 ⊢
    clear hw hkA hfA HD3
    go_wp2_with fail
    refine (refsmall_any k cc A bs HLC.out.1 HLC.out.2.2 12 (by decide) p2 d2 w4 HD4.out.s).mono ?_
    rintro r w5 ⟨se, p3, d3, rfl, hS, hO, _, hP⟩
    have HK4 := Lib.hid (HK3.out.step hP)
    have HD5 := Lib.hid (HD4.out.read hO hS)
    clear hP hO hS HD4 HK3
    have hkA : w5.cell? ⟨c, 2, none⟩ = some (.int .i64 0) := (riv_all HD5.out.c0).2.2.2.2.2.2.1
    have hfA := HD5.out.c0.frozen 2
    have HD6 := Lib.hid (show RdSi W k g c A cc bs (w5.setCell ⟨c, 2, none⟩ (.int .i64 (se : Nat))) p3 d3 (Iv.rc { zI (n : Nat) with ca := (ca : Nat), se := (se : Nat) }) from HD5.out.put ((Off.refl _ _).set _ _) (riv_setH HD5.out.c0 (by omega) rfl rfl rfl rfl rfl))
    go_upto_region 7 with fail
    obtain ⟨w6, hw⟩ : ∃ w6, w6 = w5.setCell ⟨c, 2, none⟩ (.int .i64 (se : Nat)) := ⟨_, rfl⟩
    rw [← hw] at HD6 ⊢
    clear hw hkA hfA HD5
    go_wp2_with fail
    refine (refvector_any k cc A bs HLC.out.1 HLC.out.2.2 p3 d3 w6 HD6.out.s).mono ?_
    rintro r w7 ⟨l, p4, d4, rfl, hS, hO, _, hP⟩
    have HK5 := Lib.hid (HK4.out.step hP)
    have HD7 := Lib.hid (HD6.out.read hO hS)
    clear hP hO hS HD6 HK4
    have hth := HD7.out.c0.thereT (o := 4) (n := (vl (lv l)).toArray.size) (by rw [List.size_toArray, List.size_toArray, riv_len, vl_len]; omega)
    have HD8 := Lib.hid (show RdSi W k g c A cc bs (w7.setCells c 4 (vl (lv l))) p4 d4 (Iv.rc { zI (n : Nat) with ca := (ca : Nat), se := (se : Nat), f := lv l }) from HD7.out.put (off_cells c _ _ _ _ (Off.refl _ _)) (riv_setF HD7.out.c0 (lv l)))
    go_upto_region 8 with (refine wpList_store_mid rfl 24 _ _ rfl c 4 (vl (lv l)).toArray rfl rfl hth (vinfo _) (vl_all _) ?_; show wpList _ _ _ _ _ (w7.setCells c 4 (vl (lv l))))
    obtain ⟨w8, hw⟩ : ∃ w8, w8 = w7.setCells c 4 (vl (lv l)) := ⟨_, rfl⟩
    rw [← hw] at HD8 ⊢
    clear hw hth HD7
    go_wp2_with fail
    refine (refnumA k cc A bs HLC.out.1 HLC.out.2.2 p4 d4 w8 HD8.out.s).mono ?_
    rintro r w9 ⟨t, p5, d5, rfl, hS, hO, hP⟩
    have HK6 := Lib.hid (HK5.out.step hP)
    have HD9 := Lib.hid (HD8.out.read hO hS)
    clear hP hO hS HD8 HK5
    have hkA : w9.cell? ⟨c, 16, none⟩ = some (.int .u64 ((0 : Nat) : Int)) := (riv_all HD9.out.c0).2.2.2.2.2.2.2.2
    have hfA := HD9.out.c0.frozen 16
    have HD10 := Lib.hid (show RdSi W k g c A cc bs (w9.setCell ⟨c, 16, none⟩ (.int .u64 (t : Nat))) p5 d5 (Iv.rc { zI (n : Nat) with ca := (ca : Nat), se := (se : Nat), f := lv l, t := t }) from HD9.out.put ((Off.refl _ _).set _ _) (riv_setT HD9.out.c0 t))
    go_upto_region 9 with fail
    obtain ⟨w10, hw⟩ : ∃ w10, w10 = w9.setCell ⟨c, 16, none⟩ (.int .u64 (t : Nat)) := ⟨_, rfl⟩
    rw [← hw] at HD10 ⊢
    clear hw hkA hfA HD9
    go_wp2_with fail
    refine (refgetop_any k cc A bs HLC.out.1 HLC.out.2.1 HLC.out.2.2 p5 d5 w10 HD10.out.s).mono ?_
    rintro r w11 ⟨o, p6, d6, rfl, hS, hO, hP⟩
    have HK7 := Lib.hid (HK6.out.step hP)
    have HD11 := Lib.hid (HD10.out.read hO hS)
    clear hP hO hS HD10 HK6
    have hth := HD11.out.c0.thereT (o := 17) (n := (o.plain).toArray.size) (by rw [List.size_toArray, List.size_toArray, riv_len, plain_len]; omega)
    have HD12 := Lib.hid (show RdSi W k g c A cc bs (w11.setCells c 17 (o.plain)) p6 d6 (Iv.rc { zI (n : Nat) with ca := (ca : Nat), se := (se : Nat), f := lv l, t := t, o := o }) from HD11.out.put (off_cells c _ _ _ _ (Off.refl _ _)) (riv_setO HD11.out.c0 o))
    go_upto_region 22 with (refine wpList_store_mid rfl 35 _ _ rfl c 17 (o.plain).toArray rfl rfl hth (pinfoA6 _) (plain_one _) ?_; show wpList _ _ _ _ _ (w11.setCells c 17 (o.plain)))
    obtain ⟨w12, hw⟩ : ∃ w12, w12 = w11.setCells c 17 (o.plain) := ⟨_, rfl⟩
    rw [← hw] at HD12 ⊢
    clear hw hth HD11
    have HFN := Lib.hid (show FinP R bs p6 d6 { zI (n : Nat) with ca := (ca : Nat), se := (se : Nat), f := lv l, t := t, o := o } from FinP.of HK7.out z256)
    obtain ⟨m, hm⟩ : ∃ m : Iv, m = { zI (n : Nat) with ca := (ca : Nat), se := (se : Nat), f := lv l, t := t, o := o } := ⟨_, rfl⟩
    rw [← hm] at HFN HD12
    clear hm
    go_wp2_with fail
    refine (refend_any k cc A bs p6 d6 w12 HD12.out.s).mono ?_
    rintro r w20 ⟨z, rfl, hb, hz⟩
    have HZ := Lib.hid hz
    have HD20 := Lib.hid (HD12.out.next hb)
    clear hb hz HD12
    have rgx := HD20.out.c0.range
    have bg := HD20.out.g0
    by_cases hz0 : z = 0
    · have f1 : (z != 0) = false := by simpa using hz0
      obtain ⟨he1, hdr⟩ := HZ.out.1 hz0
      have HRR := Lib.hid (fun w => rright26_any m HFN.out.by8 w)
      rcases hrm : rightI m with _ | _
      · rw [hrm] at HRR
        have HBD := Lib.hid (HFN.out.bad hrm)
        clear hz0 he1 hdr hrm
        go_wp2_with (first | (refine wpList_load_midg (by rfl) 39 _ rfl _ _ rfl (Iv.rc ?_) _ ?_ Tryz.underlying39 rfl (rivinfo _) ?_; rotate_left; (focus assumption)) | (go_at_call 12; refine (HRR.out _).mono ?_; rintro r w21 ⟨rfl, hb⟩; have HB21 := Lib.hid (HD20.out.b.trans (hb.mono HD20.out.b.size)); have bg2 := HD20.out.g0.next hb; have rg2 := (HD20.out.c0.next hb).range; clear hb rgx bg HRR) | (refine wpList_build_lit (zI 0).rc.toArray rfl 39 _ rfl built_zIr0 ?_) | (refine wpList_store_blk rfl 39 _ _ rfl g 39 zrinA (zI 0).rc.toArray rfl rfl bg2 (rivinfoA _) (zrin_siz _) (riv_one _) ?_; intro hrow))
        refine bodyPost_row2 (t := 39) (zI 0).rc (.bool false) rfl rfl rfl rfl Tryz.underlying39 rfl (rivinfo _) hrow ?_
        exact ⟨_, false, rfl, below_setRow HB21.out (Nat.le_of_eq HKE.out.2.symm) _, HRP.out _ _ (Or.inr ⟨rfl, Or.inl HBD.out, rfl⟩)⟩
      · rw [hrm] at HRR
        have HYS := Lib.hid (HFN.out.yes he1 hdr hrm)
        clear hz0 he1 hdr hrm
        by_cases hl : L ≤ 1800
        · have hl2 : ¬ (1800 : Int) < (L : Nat) := by omega
          have HLL := Lib.hid hl
          clear hl
          go_wp2_with (first | (refine wpList_load_midg (by rfl) 39 _ rfl _ _ rfl (Iv.rc ?_) _ ?_ Tryz.underlying39 rfl (rivinfo _) ?_; rotate_left; (focus assumption)) | (go_at_call 12; refine (HRR.out _).mono ?_; rintro r w21 ⟨rfl, hb⟩; have HB21 := Lib.hid (HD20.out.b.trans (hb.mono HD20.out.b.size)); have bg2 := HD20.out.g0.next hb; have rg2 := (HD20.out.c0.next hb).range; clear hb rgx bg HRR) | (refine wpList_store_blk rfl 39 _ _ rfl g 39 zrinA m.rc.toArray rfl rfl bg2 (rivinfoA _) (zrin_siz _) (riv_one _) ?_; intro hrow))
          refine bodyPost_row2 (t := 39) m.rc (.bool true) rfl rfl rfl rfl Tryz.underlying39 rfl (rivinfo _) hrow ?_
          exact ⟨_, true, rfl, below_setRow HB21.out (Nat.le_of_eq HKE.out.2.symm) _, HRP.out _ _ (Or.inl ⟨rfl, m, HYS.out, by have := HLL.out; have := HL.out; omega, rfl, HFN.out.by8⟩)⟩
        · have hl2 : (1800 : Int) < (L : Nat) := by omega
          have HLL := Lib.hid hl
          clear hl
          go_wp2_with (first | (refine wpList_load_midg (by rfl) 39 _ rfl _ _ rfl (Iv.rc ?_) _ ?_ Tryz.underlying39 rfl (rivinfo _) ?_; rotate_left; (focus assumption)) | (go_at_call 12; refine (HRR.out _).mono ?_; rintro r w21 ⟨rfl, hb⟩; have HB21 := Lib.hid (HD20.out.b.trans (hb.mono HD20.out.b.size)); have bg2 := HD20.out.g0.next hb; have rg2 := (HD20.out.c0.next hb).range; clear hb rgx bg HRR) | (refine wpList_build_lit (zI 0).rc.toArray rfl 39 _ rfl built_zIr0 ?_) | (refine wpList_store_blk rfl 39 _ _ rfl g 39 zrinA (zI 0).rc.toArray rfl rfl bg2 (rivinfoA _) (zrin_siz _) (riv_one _) ?_; intro hrow))
          refine bodyPost_row2 (t := 39) (zI 0).rc (.bool false) rfl rfl rfl rfl Tryz.underlying39 rfl (rivinfo _) hrow ?_
          exact ⟨_, false, rfl, below_setRow HB21.out (Nat.le_of_eq HKE.out.2.symm) _, HRP.out _ _ (Or.inr ⟨rfl, Or.inr (by have := HLL.out; have := HL.out; omega), rfl⟩)⟩
    · have f1 : (z != 0) = true := by simpa using hz0
      have HBD := Lib.hid (HFN.out.no z HZ.out hz0)
      clear hz0 rgx
      go_wp2_with (first | (refine wpList_build_lit (zI 0).rc.toArray rfl 39 _ rfl built_zIr0 ?_) | (refine wpList_store_blk rfl 39 _ _ rfl g 39 zrinA (zI 0).rc.toArray rfl rfl bg (rivinfoA _) (zrin_siz _) (riv_one _) ?_; intro hrow))
      refine bodyPost_row2 (t := 39) (zI 0).rc (.bool false) rfl rfl rfl rfl Tryz.underlying39 rfl (rivinfo _) hrow ?_
      exact ⟨_, false, rfl, below_setRow HD20.out.b (Nat.le_of_eq HKE.out.2.symm) _, HRP.out _ _ (Or.inr ⟨rfl, Or.inl HBD.out, rfl⟩)⟩
  · skip
    have h02 := h0
    have e1 : (((n : Nat) : Int) == 1) = false := by simp; omega
    have e3 : (((n : Nat) : Int) == 3) = false := by simp; omega
    have e5 : (((n : Nat) : Int) == 5) = false := by simp; omega
    have e6 : (((n : Nat) : Int) == 6) = false := by simp; omega
    have HK2 := Lib.hid (show G2 R bs p1 d1 (bindP (smallP 12) fun se => mkI { zI (n : Nat) with se := (se : Nat) }) from HK1.out.eq fun t => by rcases h0 with h0 | h0 <;> (subst h0; rfl))
    clear HK1 h02
    rcases h0 with h0 | h0
    · skip
      have e2 : (((n : Nat) : Int) == 2) = true := by simp [h0]
      have e4 : (((n : Nat) : Int) == 4) = false := by simp [h0]
      go_wp2_with fail
      refine (refsmall_any k cc A bs HLC.out.1 HLC.out.2.2 12 (by decide) p1 d1 w2 HD2.out.s).mono ?_
      rintro r w3 ⟨se, p2, d2, rfl, hS, hO, _, hP⟩
      have HK3 := Lib.hid (HK2.out.step hP)
      have HD3 := Lib.hid (HD2.out.read hO hS)
      clear c0
      clear hP hO hS HD2 HK2
      have hkA : w3.cell? ⟨c, 2, none⟩ = some (.int .i64 0) := (riv_all HD3.out.c0).2.2.2.2.2.2.1
      have hfA := HD3.out.c0.frozen 2
      have HD4 := Lib.hid (show RdSi W k g c A cc bs (w3.setCell ⟨c, 2, none⟩ (.int .i64 (se : Nat))) p2 d2 (Iv.rc { zI (n : Nat) with se := (se : Nat) }) from HD3.out.put ((Off.refl _ _).set _ _) (riv_setH HD3.out.c0 (by omega) rfl rfl rfl rfl rfl))
      go_upto_region 22 with fail
      obtain ⟨w4, hw⟩ : ∃ w4, w4 = w3.setCell ⟨c, 2, none⟩ (.int .i64 (se : Nat)) := ⟨_, rfl⟩
      rw [← hw] at HD4 ⊢
      clear hw hkA hfA HD3
      have HFN := Lib.hid (show FinP R bs p2 d2 { zI (n : Nat) with se := (se : Nat) } from FinP.of HK3.out z256)
      obtain ⟨m, hm⟩ : ∃ m : Iv, m = { zI (n : Nat) with se := (se : Nat) } := ⟨_, rfl⟩
      rw [← hm] at HFN HD4
      clear hm
      go_wp2_with fail
      refine (refend_any k cc A bs p2 d2 w4 HD4.out.s).mono ?_
      rintro r w20 ⟨z, rfl, hb, hz⟩
      have HZ := Lib.hid hz
      have HD20 := Lib.hid (HD4.out.next hb)
      clear hb hz HD4
      have rgx := HD20.out.c0.range
      have bg := HD20.out.g0
      by_cases hz0 : z = 0
      · have f1 : (z != 0) = false := by simpa using hz0
        obtain ⟨he1, hdr⟩ := HZ.out.1 hz0
        have HRR := Lib.hid (fun w => rright26_any m HFN.out.by8 w)
        rcases hrm : rightI m with _ | _
        · rw [hrm] at HRR
          have HBD := Lib.hid (HFN.out.bad hrm)
          clear hz0 he1 hdr hrm
          go_wp2_with (first | (refine wpList_load_midg (by rfl) 39 _ rfl _ _ rfl (Iv.rc ?_) _ ?_ Tryz.underlying39 rfl (rivinfo _) ?_; rotate_left; (focus assumption)) | (go_at_call 12; refine (HRR.out _).mono ?_; rintro r w21 ⟨rfl, hb⟩; have HB21 := Lib.hid (HD20.out.b.trans (hb.mono HD20.out.b.size)); have bg2 := HD20.out.g0.next hb; have rg2 := (HD20.out.c0.next hb).range; clear hb rgx bg HRR) | (refine wpList_build_lit (zI 0).rc.toArray rfl 39 _ rfl built_zIr0 ?_) | (refine wpList_store_blk rfl 39 _ _ rfl g 39 zrinA (zI 0).rc.toArray rfl rfl bg2 (rivinfoA _) (zrin_siz _) (riv_one _) ?_; intro hrow))
          refine bodyPost_row2 (t := 39) (zI 0).rc (.bool false) rfl rfl rfl rfl Tryz.underlying39 rfl (rivinfo _) hrow ?_
          exact ⟨_, false, rfl, below_setRow HB21.out (Nat.le_of_eq HKE.out.2.symm) _, HRP.out _ _ (Or.inr ⟨rfl, Or.inl HBD.out, rfl⟩)⟩
        · rw [hrm] at HRR
          have HYS := Lib.hid (HFN.out.yes he1 hdr hrm)
          clear hz0 he1 hdr hrm
          by_cases hl : L ≤ 1800
          · have hl2 : ¬ (1800 : Int) < (L : Nat) := by omega
            have HLL := Lib.hid hl
            clear hl
            go_wp2_with (first | (refine wpList_load_midg (by rfl) 39 _ rfl _ _ rfl (Iv.rc ?_) _ ?_ Tryz.underlying39 rfl (rivinfo _) ?_; rotate_left; (focus assumption)) | (go_at_call 12; refine (HRR.out _).mono ?_; rintro r w21 ⟨rfl, hb⟩; have HB21 := Lib.hid (HD20.out.b.trans (hb.mono HD20.out.b.size)); have bg2 := HD20.out.g0.next hb; have rg2 := (HD20.out.c0.next hb).range; clear hb rgx bg HRR) | (refine wpList_store_blk rfl 39 _ _ rfl g 39 zrinA m.rc.toArray rfl rfl bg2 (rivinfoA _) (zrin_siz _) (riv_one _) ?_; intro hrow))
            refine bodyPost_row2 (t := 39) m.rc (.bool true) rfl rfl rfl rfl Tryz.underlying39 rfl (rivinfo _) hrow ?_
            exact ⟨_, true, rfl, below_setRow HB21.out (Nat.le_of_eq HKE.out.2.symm) _, HRP.out _ _ (Or.inl ⟨rfl, m, HYS.out, by have := HLL.out; have := HL.out; omega, rfl, HFN.out.by8⟩)⟩
          · have hl2 : (1800 : Int) < (L : Nat) := by omega
            have HLL := Lib.hid hl
            clear hl
            go_wp2_with (first | (refine wpList_load_midg (by rfl) 39 _ rfl _ _ rfl (Iv.rc ?_) _ ?_ Tryz.underlying39 rfl (rivinfo _) ?_; rotate_left; (focus assumption)) | (go_at_call 12; refine (HRR.out _).mono ?_; rintro r w21 ⟨rfl, hb⟩; have HB21 := Lib.hid (HD20.out.b.trans (hb.mono HD20.out.b.size)); have bg2 := HD20.out.g0.next hb; have rg2 := (HD20.out.c0.next hb).range; clear hb rgx bg HRR) | (refine wpList_build_lit (zI 0).rc.toArray rfl 39 _ rfl built_zIr0 ?_) | (refine wpList_store_blk rfl 39 _ _ rfl g 39 zrinA (zI 0).rc.toArray rfl rfl bg2 (rivinfoA _) (zrin_siz _) (riv_one _) ?_; intro hrow))
            refine bodyPost_row2 (t := 39) (zI 0).rc (.bool false) rfl rfl rfl rfl Tryz.underlying39 rfl (rivinfo _) hrow ?_
            exact ⟨_, false, rfl, below_setRow HB21.out (Nat.le_of_eq HKE.out.2.symm) _, HRP.out _ _ (Or.inr ⟨rfl, Or.inr (by have := HLL.out; have := HL.out; omega), rfl⟩)⟩
      · have f1 : (z != 0) = true := by simpa using hz0
        have HBD := Lib.hid (HFN.out.no z HZ.out hz0)
        clear hz0 rgx
        go_wp2_with (first | (refine wpList_build_lit (zI 0).rc.toArray rfl 39 _ rfl built_zIr0 ?_) | (refine wpList_store_blk rfl 39 _ _ rfl g 39 zrinA (zI 0).rc.toArray rfl rfl bg (rivinfoA _) (zrin_siz _) (riv_one _) ?_; intro hrow))
        refine bodyPost_row2 (t := 39) (zI 0).rc (.bool false) rfl rfl rfl rfl Tryz.underlying39 rfl (rivinfo _) hrow ?_
        exact ⟨_, false, rfl, below_setRow HD20.out.b (Nat.le_of_eq HKE.out.2.symm) _, HRP.out _ _ (Or.inr ⟨rfl, Or.inl HBD.out, rfl⟩)⟩
    · skip
      have e2 : (((n : Nat) : Int) == 2) = false := by simp [h0]
      have e4 : (((n : Nat) : Int) == 4) = true := by simp [h0]
      go_wp2_with fail
      refine (refsmall_any k cc A bs HLC.out.1 HLC.out.2.2 12 (by decide) p1 d1 w2 HD2.out.s).mono ?_
      rintro r w3 ⟨se, p2, d2, rfl, hS, hO, _, hP⟩
      have HK3 := Lib.hid (HK2.out.step hP)
      have HD3 := Lib.hid (HD2.out.read hO hS)
      clear c0
      clear hP hO hS HD2 HK2
      have hkA : w3.cell? ⟨c, 2, none⟩ = some (.int .i64 0) := (riv_all HD3.out.c0).2.2.2.2.2.2.1
      have hfA := HD3.out.c0.frozen 2
      have HD4 := Lib.hid (show RdSi W k g c A cc bs (w3.setCell ⟨c, 2, none⟩ (.int .i64 (se : Nat))) p2 d2 (Iv.rc { zI (n : Nat) with se := (se : Nat) }) from HD3.out.put ((Off.refl _ _).set _ _) (riv_setH HD3.out.c0 (by omega) rfl rfl rfl rfl rfl))
      go_upto_region 22 with fail
      obtain ⟨w4, hw⟩ : ∃ w4, w4 = w3.setCell ⟨c, 2, none⟩ (.int .i64 (se : Nat)) := ⟨_, rfl⟩
      rw [← hw] at HD4 ⊢
      clear hw hkA hfA HD3
      have HFN := Lib.hid (show FinP R bs p2 d2 { zI (n : Nat) with se := (se : Nat) } from FinP.of HK3.out z256)
      obtain ⟨m, hm⟩ : ∃ m : Iv, m = { zI (n : Nat) with se := (se : Nat) } := ⟨_, rfl⟩
      rw [← hm] at HFN HD4
      clear hm
      go_wp2_with fail
      refine (refend_any k cc A bs p2 d2 w4 HD4.out.s).mono ?_
      rintro r w20 ⟨z, rfl, hb, hz⟩
      have HZ := Lib.hid hz
      have HD20 := Lib.hid (HD4.out.next hb)
      clear hb hz HD4
      have rgx := HD20.out.c0.range
      have bg := HD20.out.g0
      by_cases hz0 : z = 0
      · have f1 : (z != 0) = false := by simpa using hz0
        obtain ⟨he1, hdr⟩ := HZ.out.1 hz0
        have HRR := Lib.hid (fun w => rright26_any m HFN.out.by8 w)
        rcases hrm : rightI m with _ | _
        · rw [hrm] at HRR
          have HBD := Lib.hid (HFN.out.bad hrm)
          clear hz0 he1 hdr hrm
          go_wp2_with (first | (refine wpList_load_midg (by rfl) 39 _ rfl _ _ rfl (Iv.rc ?_) _ ?_ Tryz.underlying39 rfl (rivinfo _) ?_; rotate_left; (focus assumption)) | (go_at_call 12; refine (HRR.out _).mono ?_; rintro r w21 ⟨rfl, hb⟩; have HB21 := Lib.hid (HD20.out.b.trans (hb.mono HD20.out.b.size)); have bg2 := HD20.out.g0.next hb; have rg2 := (HD20.out.c0.next hb).range; clear hb rgx bg HRR) | (refine wpList_build_lit (zI 0).rc.toArray rfl 39 _ rfl built_zIr0 ?_) | (refine wpList_store_blk rfl 39 _ _ rfl g 39 zrinA (zI 0).rc.toArray rfl rfl bg2 (rivinfoA _) (zrin_siz _) (riv_one _) ?_; intro hrow))
          refine bodyPost_row2 (t := 39) (zI 0).rc (.bool false) rfl rfl rfl rfl Tryz.underlying39 rfl (rivinfo _) hrow ?_
          exact ⟨_, false, rfl, below_setRow HB21.out (Nat.le_of_eq HKE.out.2.symm) _, HRP.out _ _ (Or.inr ⟨rfl, Or.inl HBD.out, rfl⟩)⟩
        · rw [hrm] at HRR
          have HYS := Lib.hid (HFN.out.yes he1 hdr hrm)
          clear hz0 he1 hdr hrm
          by_cases hl : L ≤ 1800
          · have hl2 : ¬ (1800 : Int) < (L : Nat) := by omega
            have HLL := Lib.hid hl
            clear hl
            go_wp2_with (first | (refine wpList_load_midg (by rfl) 39 _ rfl _ _ rfl (Iv.rc ?_) _ ?_ Tryz.underlying39 rfl (rivinfo _) ?_; rotate_left; (focus assumption)) | (go_at_call 12; refine (HRR.out _).mono ?_; rintro r w21 ⟨rfl, hb⟩; have HB21 := Lib.hid (HD20.out.b.trans (hb.mono HD20.out.b.size)); have bg2 := HD20.out.g0.next hb; have rg2 := (HD20.out.c0.next hb).range; clear hb rgx bg HRR) | (refine wpList_store_blk rfl 39 _ _ rfl g 39 zrinA m.rc.toArray rfl rfl bg2 (rivinfoA _) (zrin_siz _) (riv_one _) ?_; intro hrow))
            refine bodyPost_row2 (t := 39) m.rc (.bool true) rfl rfl rfl rfl Tryz.underlying39 rfl (rivinfo _) hrow ?_
            exact ⟨_, true, rfl, below_setRow HB21.out (Nat.le_of_eq HKE.out.2.symm) _, HRP.out _ _ (Or.inl ⟨rfl, m, HYS.out, by have := HLL.out; have := HL.out; omega, rfl, HFN.out.by8⟩)⟩
          · have hl2 : (1800 : Int) < (L : Nat) := by omega
            have HLL := Lib.hid hl
            clear hl
            go_wp2_with (first | (refine wpList_load_midg (by rfl) 39 _ rfl _ _ rfl (Iv.rc ?_) _ ?_ Tryz.underlying39 rfl (rivinfo _) ?_; rotate_left; (focus assumption)) | (go_at_call 12; refine (HRR.out _).mono ?_; rintro r w21 ⟨rfl, hb⟩; have HB21 := Lib.hid (HD20.out.b.trans (hb.mono HD20.out.b.size)); have bg2 := HD20.out.g0.next hb; have rg2 := (HD20.out.c0.next hb).range; clear hb rgx bg HRR) | (refine wpList_build_lit (zI 0).rc.toArray rfl 39 _ rfl built_zIr0 ?_) | (refine wpList_store_blk rfl 39 _ _ rfl g 39 zrinA (zI 0).rc.toArray rfl rfl bg2 (rivinfoA _) (zrin_siz _) (riv_one _) ?_; intro hrow))
            refine bodyPost_row2 (t := 39) (zI 0).rc (.bool false) rfl rfl rfl rfl Tryz.underlying39 rfl (rivinfo _) hrow ?_
            exact ⟨_, false, rfl, below_setRow HB21.out (Nat.le_of_eq HKE.out.2.symm) _, HRP.out _ _ (Or.inr ⟨rfl, Or.inr (by have := HLL.out; have := HL.out; omega), rfl⟩)⟩
      · have f1 : (z != 0) = true := by simpa using hz0
        have HBD := Lib.hid (HFN.out.no z HZ.out hz0)
        clear hz0 rgx
        go_wp2_with (first | (refine wpList_build_lit (zI 0).rc.toArray rfl 39 _ rfl built_zIr0 ?_) | (refine wpList_store_blk rfl 39 _ _ rfl g 39 zrinA (zI 0).rc.toArray rfl rfl bg (rivinfoA _) (zrin_siz _) (riv_one _) ?_; intro hrow))
        refine bodyPost_row2 (t := 39) (zI 0).rc (.bool false) rfl rfl rfl rfl Tryz.underlying39 rfl (rivinfo _) hrow ?_
        exact ⟨_, false, rfl, below_setRow HD20.out.b (Nat.le_of_eq HKE.out.2.symm) _, HRP.out _ _ (Or.inr ⟨rfl, Or.inl HBD.out, rfl⟩)⟩
  · skip
    have e1 : (((n : Nat) : Int) == 1) = false := by simp [h0]
    have e2 : (((n : Nat) : Int) == 2) = false := by simp [h0]
    have e3 : (((n : Nat) : Int) == 3) = true := by simp [h0]
    have e4 : (((n : Nat) : Int) == 4) = false := by simp [h0]
    have e5 : (((n : Nat) : Int) == 5) = false := by simp [h0]
    have e6 : (((n : Nat) : Int) == 6) = false := by simp [h0]
    have HK2 := Lib.hid (show G2 R bs p1 d1 (bindP (smallP 12) fun se => bindP (smallP 12) fun no => mkI { zI (n : Nat) with se := (se : Nat), no := (no : Nat) }) from HK1.out.eq fun t => by subst h0; rfl)
    clear HK1
    go_wp2_with fail
    refine (refsmall_any k cc A bs HLC.out.1 HLC.out.2.2 12 (by decide) p1 d1 w2 HD2.out.s).mono ?_
    rintro r w3 ⟨se, p2, d2, rfl, hS, hO, _, hP⟩
    have HK3 := Lib.hid (HK2.out.step hP)
    have HD3 := Lib.hid (HD2.out.read hO hS)
    clear c0
    clear hP hO hS HD2 HK2
    have hkA : w3.cell? ⟨c, 2, none⟩ = some (.int .i64 0) := (riv_all HD3.out.c0).2.2.2.2.2.2.1
    have hfA := HD3.out.c0.frozen 2
    have HD4 := Lib.hid (show RdSi W k g c A cc bs (w3.setCell ⟨c, 2, none⟩ (.int .i64 (se : Nat))) p2 d2 (Iv.rc { zI (n : Nat) with se := (se : Nat) }) from HD3.out.put ((Off.refl _ _).set _ _) (riv_setH HD3.out.c0 (by omega) rfl rfl rfl rfl rfl))
    go_upto_region 15 with fail
    obtain ⟨w4, hw⟩ : ∃ w4, w4 = w3.setCell ⟨c, 2, none⟩ (.int .i64 (se : Nat)) := ⟨_, rfl⟩
    rw [← hw] at HD4 ⊢
    clear hw hkA hfA HD3
    go_wp2_with fail
    refine (refsmall_any k cc A bs HLC.out.1 HLC.out.2.2 12 (by decide) p2 d2 w4 HD4.out.s).mono ?_
    rintro r w5 ⟨no, p3, d3, rfl, hS, hO, _, hP⟩
    have HK4 := Lib.hid (HK3.out.step hP)
    have HD5 := Lib.hid (HD4.out.read hO hS)
    clear hP hO hS HD4 HK3
    have hkA : w5.cell? ⟨c, 3, none⟩ = some (.int .i64 0) := (riv_all HD5.out.c0).2.2.2.2.2.2.2.1
    have hfA := HD5.out.c0.frozen 3
    have HD6 := Lib.hid (show RdSi W k g c A cc bs (w5.setCell ⟨c, 3, none⟩ (.int .i64 (no : Nat))) p3 d3 (Iv.rc { zI (n : Nat) with se := (se : Nat), no := (no : Nat) }) from HD5.out.put ((Off.refl _ _).set _ _) (riv_setH HD5.out.c0 (by omega) rfl rfl rfl rfl rfl))
    go_upto_region 22 with fail
    obtain ⟨w6, hw⟩ : ∃ w6, w6 = w5.setCell ⟨c, 3, none⟩ (.int .i64 (no : Nat)) := ⟨_, rfl⟩
    rw [← hw] at HD6 ⊢
    clear hw hkA hfA HD5
    have HFN := Lib.hid (show FinP R bs p3 d3 { zI (n : Nat) with se := (se : Nat), no := (no : Nat) } from FinP.of HK4.out z256)
    obtain ⟨m, hm⟩ : ∃ m : Iv, m = { zI (n : Nat) with se := (se : Nat), no := (no : Nat) } := ⟨_, rfl⟩
    rw [← hm] at HFN HD6
    clear hm
    go_wp2_with fail
    refine (refend_any k cc A bs p3 d3 w6 HD6.out.s).mono ?_
    rintro r w20 ⟨z, rfl, hb, hz⟩
    have HZ := Lib.hid hz
    have HD20 := Lib.hid (HD6.out.next hb)
    clear hb hz HD6
    have rgx := HD20.out.c0.range
    have bg := HD20.out.g0
    by_cases hz0 : z = 0
    · have f1 : (z != 0) = false := by simpa using hz0
      obtain ⟨he1, hdr⟩ := HZ.out.1 hz0
      have HRR := Lib.hid (fun w => rright26_any m HFN.out.by8 w)
      rcases hrm : rightI m with _ | _
      · rw [hrm] at HRR
        have HBD := Lib.hid (HFN.out.bad hrm)
        clear hz0 he1 hdr hrm
        go_wp2_with (first | (refine wpList_load_midg (by rfl) 39 _ rfl _ _ rfl (Iv.rc ?_) _ ?_ Tryz.underlying39 rfl (rivinfo _) ?_; rotate_left; (focus assumption)) | (go_at_call 12; refine (HRR.out _).mono ?_; rintro r w21 ⟨rfl, hb⟩; have HB21 := Lib.hid (HD20.out.b.trans (hb.mono HD20.out.b.size)); have bg2 := HD20.out.g0.next hb; have rg2 := (HD20.out.c0.next hb).range; clear hb rgx bg HRR) | (refine wpList_build_lit (zI 0).rc.toArray rfl 39 _ rfl built_zIr0 ?_) | (refine wpList_store_blk rfl 39 _ _ rfl g 39 zrinA (zI 0).rc.toArray rfl rfl bg2 (rivinfoA _) (zrin_siz _) (riv_one _) ?_; intro hrow))
        refine bodyPost_row2 (t := 39) (zI 0).rc (.bool false) rfl rfl rfl rfl Tryz.underlying39 rfl (rivinfo _) hrow ?_
        exact ⟨_, false, rfl, below_setRow HB21.out (Nat.le_of_eq HKE.out.2.symm) _, HRP.out _ _ (Or.inr ⟨rfl, Or.inl HBD.out, rfl⟩)⟩
      · rw [hrm] at HRR
        have HYS := Lib.hid (HFN.out.yes he1 hdr hrm)
        clear hz0 he1 hdr hrm
        by_cases hl : L ≤ 1800
        · have hl2 : ¬ (1800 : Int) < (L : Nat) := by omega
          have HLL := Lib.hid hl
          clear hl
          go_wp2_with (first | (refine wpList_load_midg (by rfl) 39 _ rfl _ _ rfl (Iv.rc ?_) _ ?_ Tryz.underlying39 rfl (rivinfo _) ?_; rotate_left; (focus assumption)) | (go_at_call 12; refine (HRR.out _).mono ?_; rintro r w21 ⟨rfl, hb⟩; have HB21 := Lib.hid (HD20.out.b.trans (hb.mono HD20.out.b.size)); have bg2 := HD20.out.g0.next hb; have rg2 := (HD20.out.c0.next hb).range; clear hb rgx bg HRR) | (refine wpList_store_blk rfl 39 _ _ rfl g 39 zrinA m.rc.toArray rfl rfl bg2 (rivinfoA _) (zrin_siz _) (riv_one _) ?_; intro hrow))
          refine bodyPost_row2 (t := 39) m.rc (.bool true) rfl rfl rfl rfl Tryz.underlying39 rfl (rivinfo _) hrow ?_
          exact ⟨_, true, rfl, below_setRow HB21.out (Nat.le_of_eq HKE.out.2.symm) _, HRP.out _ _ (Or.inl ⟨rfl, m, HYS.out, by have := HLL.out; have := HL.out; omega, rfl, HFN.out.by8⟩)⟩
        · have hl2 : (1800 : Int) < (L : Nat) := by omega
          have HLL := Lib.hid hl
          clear hl
          go_wp2_with (first | (refine wpList_load_midg (by rfl) 39 _ rfl _ _ rfl (Iv.rc ?_) _ ?_ Tryz.underlying39 rfl (rivinfo _) ?_; rotate_left; (focus assumption)) | (go_at_call 12; refine (HRR.out _).mono ?_; rintro r w21 ⟨rfl, hb⟩; have HB21 := Lib.hid (HD20.out.b.trans (hb.mono HD20.out.b.size)); have bg2 := HD20.out.g0.next hb; have rg2 := (HD20.out.c0.next hb).range; clear hb rgx bg HRR) | (refine wpList_build_lit (zI 0).rc.toArray rfl 39 _ rfl built_zIr0 ?_) | (refine wpList_store_blk rfl 39 _ _ rfl g 39 zrinA (zI 0).rc.toArray rfl rfl bg2 (rivinfoA _) (zrin_siz _) (riv_one _) ?_; intro hrow))
          refine bodyPost_row2 (t := 39) (zI 0).rc (.bool false) rfl rfl rfl rfl Tryz.underlying39 rfl (rivinfo _) hrow ?_
          exact ⟨_, false, rfl, below_setRow HB21.out (Nat.le_of_eq HKE.out.2.symm) _, HRP.out _ _ (Or.inr ⟨rfl, Or.inr (by have := HLL.out; have := HL.out; omega), rfl⟩)⟩
    · have f1 : (z != 0) = true := by simpa using hz0
      have HBD := Lib.hid (HFN.out.no z HZ.out hz0)
      clear hz0 rgx
      go_wp2_with (first | (refine wpList_build_lit (zI 0).rc.toArray rfl 39 _ rfl built_zIr0 ?_) | (refine wpList_store_blk rfl 39 _ _ rfl g 39 zrinA (zI 0).rc.toArray rfl rfl bg (rivinfoA _) (zrin_siz _) (riv_one _) ?_; intro hrow))
      refine bodyPost_row2 (t := 39) (zI 0).rc (.bool false) rfl rfl rfl rfl Tryz.underlying39 rfl (rivinfo _) hrow ?_
      exact ⟨_, false, rfl, below_setRow HD20.out.b (Nat.le_of_eq HKE.out.2.symm) _, HRP.out _ _ (Or.inr ⟨rfl, Or.inl HBD.out, rfl⟩)⟩
  · skip
    have e1 : (((n : Nat) : Int) == 1) = false := by simp [h0]
    have e2 : (((n : Nat) : Int) == 2) = false := by simp [h0]
    have e3 : (((n : Nat) : Int) == 3) = false := by simp [h0]
    have e4 : (((n : Nat) : Int) == 4) = false := by simp [h0]
    have e5 : (((n : Nat) : Int) == 5) = true := by simp [h0]
    have e6 : (((n : Nat) : Int) == 6) = false := by simp [h0]
    have HK2 := Lib.hid (show G2 R bs p1 d1 (bindP (smallP 12) fun ca => bindP vectorP fun l => bindP (numP true 0) fun t => mkI { zI (n : Nat) with ca := (ca : Nat), f := lv l, t := t }) from HK1.out.eq fun t => by subst h0; rfl)
    clear HK1
    go_wp2_with fail
    refine (refsmall_any k cc A bs HLC.out.1 HLC.out.2.2 12 (by decide) p1 d1 w2 HD2.out.s).mono ?_
    rintro r w3 ⟨ca, p2, d2, rfl, hS, hO, _, hP⟩
    have HK3 := Lib.hid (HK2.out.step hP)
    have HD3 := Lib.hid (HD2.out.read hO hS)
    clear c0
    clear hP hO hS HD2 HK2
    have hkA : w3.cell? ⟨c, 1, none⟩ = some (.int .i64 0) := (riv_all HD3.out.c0).2.2.2.2.2.1
    have hfA := HD3.out.c0.frozen 1
    have HD4 := Lib.hid (show RdSi W k g c A cc bs (w3.setCell ⟨c, 1, none⟩ (.int .i64 (ca : Nat))) p2 d2 (Iv.rc { zI (n : Nat) with ca := (ca : Nat) }) from HD3.out.put ((Off.refl _ _).set _ _) (riv_setH HD3.out.c0 (by omega) rfl rfl rfl rfl rfl))
    go_upto_region 18 with fail
    obtain ⟨w4, hw⟩ : ∃ w4, w4 = w3.setCell ⟨c, 1, none⟩ (.int .i64 (ca : Nat)) := ⟨_, rfl⟩
    rw [← hw] at HD4 ⊢
    clear hw hkA hfA HD3
    go_wp2_with fail
    refine (refvector_any k cc A bs HLC.out.1 HLC.out.2.2 p2 d2 w4 HD4.out.s).mono ?_
    rintro r w5 ⟨l, p3, d3, rfl, hS, hO, _, hP⟩
    have HK4 := Lib.hid (HK3.out.step hP)
    have HD5 := Lib.hid (HD4.out.read hO hS)
    clear hP hO hS HD4 HK3
    have hth := HD5.out.c0.thereT (o := 4) (n := (vl (lv l)).toArray.size) (by rw [List.size_toArray, List.size_toArray, riv_len, vl_len]; omega)
    have HD6 := Lib.hid (show RdSi W k g c A cc bs (w5.setCells c 4 (vl (lv l))) p3 d3 (Iv.rc { zI (n : Nat) with ca := (ca : Nat), f := lv l }) from HD5.out.put (off_cells c _ _ _ _ (Off.refl _ _)) (riv_setF HD5.out.c0 (lv l)))
    go_upto_region 19 with (refine wpList_store_mid rfl 24 _ _ rfl c 4 (vl (lv l)).toArray rfl rfl hth (vinfo _) (vl_all _) ?_; show wpList _ _ _ _ _ (w5.setCells c 4 (vl (lv l))))
    obtain ⟨w6, hw⟩ : ∃ w6, w6 = w5.setCells c 4 (vl (lv l)) := ⟨_, rfl⟩
    rw [← hw] at HD6 ⊢
    clear hw hth HD5
    go_wp2_with fail
    refine (refnumA k cc A bs HLC.out.1 HLC.out.2.2 p3 d3 w6 HD6.out.s).mono ?_
    rintro r w7 ⟨t, p4, d4, rfl, hS, hO, hP⟩
    have HK5 := Lib.hid (HK4.out.step hP)
    have HD7 := Lib.hid (HD6.out.read hO hS)
    clear hP hO hS HD6 HK4
    have hkA : w7.cell? ⟨c, 16, none⟩ = some (.int .u64 ((0 : Nat) : Int)) := (riv_all HD7.out.c0).2.2.2.2.2.2.2.2
    have hfA := HD7.out.c0.frozen 16
    have HD8 := Lib.hid (show RdSi W k g c A cc bs (w7.setCell ⟨c, 16, none⟩ (.int .u64 (t : Nat))) p4 d4 (Iv.rc { zI (n : Nat) with ca := (ca : Nat), f := lv l, t := t }) from HD7.out.put ((Off.refl _ _).set _ _) (riv_setT HD7.out.c0 t))
    go_upto_region 22 with fail
    obtain ⟨w8, hw⟩ : ∃ w8, w8 = w7.setCell ⟨c, 16, none⟩ (.int .u64 (t : Nat)) := ⟨_, rfl⟩
    rw [← hw] at HD8 ⊢
    clear hw hkA hfA HD7
    have HFN := Lib.hid (show FinP R bs p4 d4 { zI (n : Nat) with ca := (ca : Nat), f := lv l, t := t } from FinP.of HK5.out z256)
    obtain ⟨m, hm⟩ : ∃ m : Iv, m = { zI (n : Nat) with ca := (ca : Nat), f := lv l, t := t } := ⟨_, rfl⟩
    rw [← hm] at HFN HD8
    clear hm
    go_wp2_with fail
    refine (refend_any k cc A bs p4 d4 w8 HD8.out.s).mono ?_
    rintro r w20 ⟨z, rfl, hb, hz⟩
    have HZ := Lib.hid hz
    have HD20 := Lib.hid (HD8.out.next hb)
    clear hb hz HD8
    have rgx := HD20.out.c0.range
    have bg := HD20.out.g0
    by_cases hz0 : z = 0
    · have f1 : (z != 0) = false := by simpa using hz0
      obtain ⟨he1, hdr⟩ := HZ.out.1 hz0
      have HRR := Lib.hid (fun w => rright26_any m HFN.out.by8 w)
      rcases hrm : rightI m with _ | _
      · rw [hrm] at HRR
        have HBD := Lib.hid (HFN.out.bad hrm)
        clear hz0 he1 hdr hrm
        go_wp2_with (first | (refine wpList_load_midg (by rfl) 39 _ rfl _ _ rfl (Iv.rc ?_) _ ?_ Tryz.underlying39 rfl (rivinfo _) ?_; rotate_left; (focus assumption)) | (go_at_call 12; refine (HRR.out _).mono ?_; rintro r w21 ⟨rfl, hb⟩; have HB21 := Lib.hid (HD20.out.b.trans (hb.mono HD20.out.b.size)); have bg2 := HD20.out.g0.next hb; have rg2 := (HD20.out.c0.next hb).range; clear hb rgx bg HRR) | (refine wpList_build_lit (zI 0).rc.toArray rfl 39 _ rfl built_zIr0 ?_) | (refine wpList_store_blk rfl 39 _ _ rfl g 39 zrinA (zI 0).rc.toArray rfl rfl bg2 (rivinfoA _) (zrin_siz _) (riv_one _) ?_; intro hrow))
        refine bodyPost_row2 (t := 39) (zI 0).rc (.bool false) rfl rfl rfl rfl Tryz.underlying39 rfl (rivinfo _) hrow ?_
        exact ⟨_, false, rfl, below_setRow HB21.out (Nat.le_of_eq HKE.out.2.symm) _, HRP.out _ _ (Or.inr ⟨rfl, Or.inl HBD.out, rfl⟩)⟩
      · rw [hrm] at HRR
        have HYS := Lib.hid (HFN.out.yes he1 hdr hrm)
        clear hz0 he1 hdr hrm
        by_cases hl : L ≤ 1800
        · have hl2 : ¬ (1800 : Int) < (L : Nat) := by omega
          have HLL := Lib.hid hl
          clear hl
          go_wp2_with (first | (refine wpList_load_midg (by rfl) 39 _ rfl _ _ rfl (Iv.rc ?_) _ ?_ Tryz.underlying39 rfl (rivinfo _) ?_; rotate_left; (focus assumption)) | (go_at_call 12; refine (HRR.out _).mono ?_; rintro r w21 ⟨rfl, hb⟩; have HB21 := Lib.hid (HD20.out.b.trans (hb.mono HD20.out.b.size)); have bg2 := HD20.out.g0.next hb; have rg2 := (HD20.out.c0.next hb).range; clear hb rgx bg HRR) | (refine wpList_store_blk rfl 39 _ _ rfl g 39 zrinA m.rc.toArray rfl rfl bg2 (rivinfoA _) (zrin_siz _) (riv_one _) ?_; intro hrow))
          refine bodyPost_row2 (t := 39) m.rc (.bool true) rfl rfl rfl rfl Tryz.underlying39 rfl (rivinfo _) hrow ?_
          exact ⟨_, true, rfl, below_setRow HB21.out (Nat.le_of_eq HKE.out.2.symm) _, HRP.out _ _ (Or.inl ⟨rfl, m, HYS.out, by have := HLL.out; have := HL.out; omega, rfl, HFN.out.by8⟩)⟩
        · have hl2 : (1800 : Int) < (L : Nat) := by omega
          have HLL := Lib.hid hl
          clear hl
          go_wp2_with (first | (refine wpList_load_midg (by rfl) 39 _ rfl _ _ rfl (Iv.rc ?_) _ ?_ Tryz.underlying39 rfl (rivinfo _) ?_; rotate_left; (focus assumption)) | (go_at_call 12; refine (HRR.out _).mono ?_; rintro r w21 ⟨rfl, hb⟩; have HB21 := Lib.hid (HD20.out.b.trans (hb.mono HD20.out.b.size)); have bg2 := HD20.out.g0.next hb; have rg2 := (HD20.out.c0.next hb).range; clear hb rgx bg HRR) | (refine wpList_build_lit (zI 0).rc.toArray rfl 39 _ rfl built_zIr0 ?_) | (refine wpList_store_blk rfl 39 _ _ rfl g 39 zrinA (zI 0).rc.toArray rfl rfl bg2 (rivinfoA _) (zrin_siz _) (riv_one _) ?_; intro hrow))
          refine bodyPost_row2 (t := 39) (zI 0).rc (.bool false) rfl rfl rfl rfl Tryz.underlying39 rfl (rivinfo _) hrow ?_
          exact ⟨_, false, rfl, below_setRow HB21.out (Nat.le_of_eq HKE.out.2.symm) _, HRP.out _ _ (Or.inr ⟨rfl, Or.inr (by have := HLL.out; have := HL.out; omega), rfl⟩)⟩
    · have f1 : (z != 0) = true := by simpa using hz0
      have HBD := Lib.hid (HFN.out.no z HZ.out hz0)
      clear hz0 rgx
      go_wp2_with (first | (refine wpList_build_lit (zI 0).rc.toArray rfl 39 _ rfl built_zIr0 ?_) | (refine wpList_store_blk rfl 39 _ _ rfl g 39 zrinA (zI 0).rc.toArray rfl rfl bg (rivinfoA _) (zrin_siz _) (riv_one _) ?_; intro hrow))
      refine bodyPost_row2 (t := 39) (zI 0).rc (.bool false) rfl rfl rfl rfl Tryz.underlying39 rfl (rivinfo _) hrow ?_
      exact ⟨_, false, rfl, below_setRow HD20.out.b (Nat.le_of_eq HKE.out.2.symm) _, HRP.out _ _ (Or.inr ⟨rfl, Or.inl HBD.out, rfl⟩)⟩
  · skip
    have e1 : (((n : Nat) : Int) == 1) = false := by simp [h0]
    have e2 : (((n : Nat) : Int) == 2) = false := by simp [h0]
    have e3 : (((n : Nat) : Int) == 3) = false := by simp [h0]
    have e4 : (((n : Nat) : Int) == 4) = false := by simp [h0]
    have e5 : (((n : Nat) : Int) == 5) = false := by simp [h0]
    have e6 : (((n : Nat) : Int) == 6) = true := by simp [h0]
    have HK2 := Lib.hid (show G2 R bs p1 d1 (bindP pkP fun p => mkI { zI (n : Nat) with x := ⟨p, none, 0⟩ }) from HK1.out.eq fun t => by subst h0; rfl)
    clear HK1
    go_wp2_with fail
    refine (packet26_any k cc A bs HLC.out.1 HLC.out.2.1 HLC.out.2.2 p1 d1 w2 HD2.out.s).mono ?_
    rintro r w3 ⟨x, p2, d2, rfl, hS, hO, hx, hP⟩
    have HK3 := Lib.hid (HK2.out.step hP)
    have HD3 := Lib.hid (HD2.out.read hO hS)
    have HX := Lib.hid hx
    clear c0 hx
    clear hP hO hS HD2 HK2
    have hth := HD3.out.c0.thereT (o := 21) (n := (rpc x).toArray.size) (by rw [List.size_toArray, List.size_toArray, riv_len, rpc_len]; omega)
    have HD4 := Lib.hid (show RdSi W k g c A cc bs (w3.setCells c 21 (rpc x)) p2 d2 (Iv.rc { zI (n : Nat) with x := ⟨x, none, 0⟩ }) from HD3.out.put (off_cells c _ _ _ _ (Off.refl _ _)) (riv_setX HD3.out.c0 x))
    go_upto_region 22 with (refine wpList_store_mid rfl 37 _ _ rfl c 21 (rpc x).toArray rfl rfl hth (rpinfoA _) (rpc_one _) ?_; show wpList _ _ _ _ _ (w3.setCells c 21 (rpc x)))
    obtain ⟨w4, hw⟩ : ∃ w4, w4 = w3.setCells c 21 (rpc x) := ⟨_, rfl⟩
    rw [← hw] at HD4 ⊢
    clear hw hth HD3
    have HFN := Lib.hid (show FinP R bs p2 d2 { zI (n : Nat) with x := ⟨x, none, 0⟩ } from FinP.of HK3.out HX.out)
    obtain ⟨m, hm⟩ : ∃ m : Iv, m = { zI (n : Nat) with x := ⟨x, none, 0⟩ } := ⟨_, rfl⟩
    rw [← hm] at HFN HD4
    clear hm
    go_wp2_with fail
    refine (refend_any k cc A bs p2 d2 w4 HD4.out.s).mono ?_
    rintro r w20 ⟨z, rfl, hb, hz⟩
    have HZ := Lib.hid hz
    have HD20 := Lib.hid (HD4.out.next hb)
    clear hb hz HD4
    have rgx := HD20.out.c0.range
    have bg := HD20.out.g0
    by_cases hz0 : z = 0
    · have f1 : (z != 0) = false := by simpa using hz0
      obtain ⟨he1, hdr⟩ := HZ.out.1 hz0
      have HRR := Lib.hid (fun w => rright26_any m HFN.out.by8 w)
      rcases hrm : rightI m with _ | _
      · rw [hrm] at HRR
        have HBD := Lib.hid (HFN.out.bad hrm)
        clear hz0 he1 hdr hrm
        go_wp2_with (first | (refine wpList_load_midg (by rfl) 39 _ rfl _ _ rfl (Iv.rc ?_) _ ?_ Tryz.underlying39 rfl (rivinfo _) ?_; rotate_left; (focus assumption)) | (go_at_call 12; refine (HRR.out _).mono ?_; rintro r w21 ⟨rfl, hb⟩; have HB21 := Lib.hid (HD20.out.b.trans (hb.mono HD20.out.b.size)); have bg2 := HD20.out.g0.next hb; have rg2 := (HD20.out.c0.next hb).range; clear hb rgx bg HRR) | (refine wpList_build_lit (zI 0).rc.toArray rfl 39 _ rfl built_zIr0 ?_) | (refine wpList_store_blk rfl 39 _ _ rfl g 39 zrinA (zI 0).rc.toArray rfl rfl bg2 (rivinfoA _) (zrin_siz _) (riv_one _) ?_; intro hrow))
        refine bodyPost_row2 (t := 39) (zI 0).rc (.bool false) rfl rfl rfl rfl Tryz.underlying39 rfl (rivinfo _) hrow ?_
        exact ⟨_, false, rfl, below_setRow HB21.out (Nat.le_of_eq HKE.out.2.symm) _, HRP.out _ _ (Or.inr ⟨rfl, Or.inl HBD.out, rfl⟩)⟩
      · rw [hrm] at HRR
        have HYS := Lib.hid (HFN.out.yes he1 hdr hrm)
        clear hz0 he1 hdr hrm
        by_cases hl : L ≤ 1800
        · have hl2 : ¬ (1800 : Int) < (L : Nat) := by omega
          have HLL := Lib.hid hl
          clear hl
          go_wp2_with (first | (refine wpList_load_midg (by rfl) 39 _ rfl _ _ rfl (Iv.rc ?_) _ ?_ Tryz.underlying39 rfl (rivinfo _) ?_; rotate_left; (focus assumption)) | (go_at_call 12; refine (HRR.out _).mono ?_; rintro r w21 ⟨rfl, hb⟩; have HB21 := Lib.hid (HD20.out.b.trans (hb.mono HD20.out.b.size)); have bg2 := HD20.out.g0.next hb; have rg2 := (HD20.out.c0.next hb).range; clear hb rgx bg HRR) | (refine wpList_store_blk rfl 39 _ _ rfl g 39 zrinA m.rc.toArray rfl rfl bg2 (rivinfoA _) (zrin_siz _) (riv_one _) ?_; intro hrow))
          refine bodyPost_row2 (t := 39) m.rc (.bool true) rfl rfl rfl rfl Tryz.underlying39 rfl (rivinfo _) hrow ?_
          exact ⟨_, true, rfl, below_setRow HB21.out (Nat.le_of_eq HKE.out.2.symm) _, HRP.out _ _ (Or.inl ⟨rfl, m, HYS.out, by have := HLL.out; have := HL.out; omega, rfl, HFN.out.by8⟩)⟩
        · have hl2 : (1800 : Int) < (L : Nat) := by omega
          have HLL := Lib.hid hl
          clear hl
          go_wp2_with (first | (refine wpList_load_midg (by rfl) 39 _ rfl _ _ rfl (Iv.rc ?_) _ ?_ Tryz.underlying39 rfl (rivinfo _) ?_; rotate_left; (focus assumption)) | (go_at_call 12; refine (HRR.out _).mono ?_; rintro r w21 ⟨rfl, hb⟩; have HB21 := Lib.hid (HD20.out.b.trans (hb.mono HD20.out.b.size)); have bg2 := HD20.out.g0.next hb; have rg2 := (HD20.out.c0.next hb).range; clear hb rgx bg HRR) | (refine wpList_build_lit (zI 0).rc.toArray rfl 39 _ rfl built_zIr0 ?_) | (refine wpList_store_blk rfl 39 _ _ rfl g 39 zrinA (zI 0).rc.toArray rfl rfl bg2 (rivinfoA _) (zrin_siz _) (riv_one _) ?_; intro hrow))
          refine bodyPost_row2 (t := 39) (zI 0).rc (.bool false) rfl rfl rfl rfl Tryz.underlying39 rfl (rivinfo _) hrow ?_
          exact ⟨_, false, rfl, below_setRow HB21.out (Nat.le_of_eq HKE.out.2.symm) _, HRP.out _ _ (Or.inr ⟨rfl, Or.inr (by have := HLL.out; have := HL.out; omega), rfl⟩)⟩
    · have f1 : (z != 0) = true := by simpa using hz0
      have HBD := Lib.hid (HFN.out.no z HZ.out hz0)
      clear hz0 rgx
      go_wp2_with (first | (refine wpList_build_lit (zI 0).rc.toArray rfl 39 _ rfl built_zIr0 ?_) | (refine wpList_store_blk rfl 39 _ _ rfl g 39 zrinA (zI 0).rc.toArray rfl rfl bg (rivinfoA _) (zrin_siz _) (riv_one _) ?_; intro hrow))
      refine bodyPost_row2 (t := 39) (zI 0).rc (.bool false) rfl rfl rfl rfl Tryz.underlying39 rfl (rivinfo _) hrow ?_
      exact ⟨_, false, rfl, below_setRow HD20.out.b (Nat.le_of_eq HKE.out.2.symm) _, HRP.out _ _ (Or.inr ⟨rfl, Or.inl HBD.out, rfl⟩)⟩
  · skip
    have e1 : (((n : Nat) : Int) == 1) = false := by simp [h0]
    have e2 : (((n : Nat) : Int) == 2) = false := by simp [h0]
    have e3 : (((n : Nat) : Int) == 3) = false := by simp [h0]
    have e4 : (((n : Nat) : Int) == 4) = false := by simp [h0]
    have e5 : (((n : Nat) : Int) == 5) = false := by simp [h0]
    have e6 : (((n : Nat) : Int) == 6) = false := by simp [h0]
    have HK2 := Lib.hid (show G2 R bs p1 d1 (mkI (zI (n : Nat))) from HK1.out.eq fun t => by subst h0; rfl)
    clear HK1 h0
    go_upto_region 22 with fail
    clear c0
    have HFN := Lib.hid (show FinP R bs p1 d1 (zI (n : Nat)) from FinP.of HK2.out z256)
    obtain ⟨m, hm⟩ : ∃ m : Iv, m = (zI (n : Nat)) := ⟨_, rfl⟩
    rw [← hm] at HFN HD2
    clear hm
    go_wp2_with fail
    refine (refend_any k cc A bs p1 d1 w2 HD2.out.s).mono ?_
    rintro r w20 ⟨z, rfl, hb, hz⟩
    have HZ := Lib.hid hz
    have HD20 := Lib.hid (HD2.out.next hb)
    clear hb hz HD2
    have rgx := HD20.out.c0.range
    have bg := HD20.out.g0
    by_cases hz0 : z = 0
    · have f1 : (z != 0) = false := by simpa using hz0
      obtain ⟨he1, hdr⟩ := HZ.out.1 hz0
      have HRR := Lib.hid (fun w => rright26_any m HFN.out.by8 w)
      rcases hrm : rightI m with _ | _
      · rw [hrm] at HRR
        have HBD := Lib.hid (HFN.out.bad hrm)
        clear hz0 he1 hdr hrm
        go_wp2_with (first | (refine wpList_load_midg (by rfl) 39 _ rfl _ _ rfl (Iv.rc ?_) _ ?_ Tryz.underlying39 rfl (rivinfo _) ?_; rotate_left; (focus assumption)) | (go_at_call 12; refine (HRR.out _).mono ?_; rintro r w21 ⟨rfl, hb⟩; have HB21 := Lib.hid (HD20.out.b.trans (hb.mono HD20.out.b.size)); have bg2 := HD20.out.g0.next hb; have rg2 := (HD20.out.c0.next hb).range; clear hb rgx bg HRR) | (refine wpList_build_lit (zI 0).rc.toArray rfl 39 _ rfl built_zIr0 ?_) | (refine wpList_store_blk rfl 39 _ _ rfl g 39 zrinA (zI 0).rc.toArray rfl rfl bg2 (rivinfoA _) (zrin_siz _) (riv_one _) ?_; intro hrow))
        refine bodyPost_row2 (t := 39) (zI 0).rc (.bool false) rfl rfl rfl rfl Tryz.underlying39 rfl (rivinfo _) hrow ?_
        exact ⟨_, false, rfl, below_setRow HB21.out (Nat.le_of_eq HKE.out.2.symm) _, HRP.out _ _ (Or.inr ⟨rfl, Or.inl HBD.out, rfl⟩)⟩
      · rw [hrm] at HRR
        have HYS := Lib.hid (HFN.out.yes he1 hdr hrm)
        clear hz0 he1 hdr hrm
        by_cases hl : L ≤ 1800
        · have hl2 : ¬ (1800 : Int) < (L : Nat) := by omega
          have HLL := Lib.hid hl
          clear hl
          go_wp2_with (first | (refine wpList_load_midg (by rfl) 39 _ rfl _ _ rfl (Iv.rc ?_) _ ?_ Tryz.underlying39 rfl (rivinfo _) ?_; rotate_left; (focus assumption)) | (go_at_call 12; refine (HRR.out _).mono ?_; rintro r w21 ⟨rfl, hb⟩; have HB21 := Lib.hid (HD20.out.b.trans (hb.mono HD20.out.b.size)); have bg2 := HD20.out.g0.next hb; have rg2 := (HD20.out.c0.next hb).range; clear hb rgx bg HRR) | (refine wpList_store_blk rfl 39 _ _ rfl g 39 zrinA m.rc.toArray rfl rfl bg2 (rivinfoA _) (zrin_siz _) (riv_one _) ?_; intro hrow))
          refine bodyPost_row2 (t := 39) m.rc (.bool true) rfl rfl rfl rfl Tryz.underlying39 rfl (rivinfo _) hrow ?_
          exact ⟨_, true, rfl, below_setRow HB21.out (Nat.le_of_eq HKE.out.2.symm) _, HRP.out _ _ (Or.inl ⟨rfl, m, HYS.out, by have := HLL.out; have := HL.out; omega, rfl, HFN.out.by8⟩)⟩
        · have hl2 : (1800 : Int) < (L : Nat) := by omega
          have HLL := Lib.hid hl
          clear hl
          go_wp2_with (first | (refine wpList_load_midg (by rfl) 39 _ rfl _ _ rfl (Iv.rc ?_) _ ?_ Tryz.underlying39 rfl (rivinfo _) ?_; rotate_left; (focus assumption)) | (go_at_call 12; refine (HRR.out _).mono ?_; rintro r w21 ⟨rfl, hb⟩; have HB21 := Lib.hid (HD20.out.b.trans (hb.mono HD20.out.b.size)); have bg2 := HD20.out.g0.next hb; have rg2 := (HD20.out.c0.next hb).range; clear hb rgx bg HRR) | (refine wpList_build_lit (zI 0).rc.toArray rfl 39 _ rfl built_zIr0 ?_) | (refine wpList_store_blk rfl 39 _ _ rfl g 39 zrinA (zI 0).rc.toArray rfl rfl bg2 (rivinfoA _) (zrin_siz _) (riv_one _) ?_; intro hrow))
          refine bodyPost_row2 (t := 39) (zI 0).rc (.bool false) rfl rfl rfl rfl Tryz.underlying39 rfl (rivinfo _) hrow ?_
          exact ⟨_, false, rfl, below_setRow HB21.out (Nat.le_of_eq HKE.out.2.symm) _, HRP.out _ _ (Or.inr ⟨rfl, Or.inr (by have := HLL.out; have := HL.out; omega), rfl⟩)⟩
    · have f1 : (z != 0) = true := by simpa using hz0
      have HBD := Lib.hid (HFN.out.no z HZ.out hz0)
      clear hz0 rgx
      go_wp2_with (first | (refine wpList_build_lit (zI 0).rc.toArray rfl 39 _ rfl built_zIr0 ?_) | (refine wpList_store_blk rfl 39 _ _ rfl g 39 zrinA (zI 0).rc.toArray rfl rfl bg (rivinfoA _) (zrin_siz _) (riv_one _) ?_; intro hrow))
      refine bodyPost_row2 (t := 39) (zI 0).rc (.bool false) rfl rfl rfl rfl Tryz.underlying39 rfl (rivinfo _) hrow ?_
      exact ⟨_, false, rfl, below_setRow HD20.out.b (Nat.le_of_eq HKE.out.2.symm) _, HRP.out _ _ (Or.inr ⟨rfl, Or.inl HBD.out, rfl⟩)⟩
end In
end Go.Proofs.YtgnfachjobohoaaGreat

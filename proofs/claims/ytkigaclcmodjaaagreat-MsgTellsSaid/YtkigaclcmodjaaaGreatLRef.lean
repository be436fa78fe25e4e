/-
The document's label: its dot; may it be?
The document's label of bytes.
The document's bytes of a label.
-/
import Derived.Test.YtkigaclcmodjaaaGreatLab4
import Derived.Test.YtkigaclcmodjaaaGreatRefs
import Derived.Test.YtkigaclcmodjaaaGreatLGet
import Derived.Test.YtkigaclcmodjaaaGreatRefR
import Derived.Test.YtkigaclcmodjaaaGreatRefW
import Derived.Test.YtkigaclcmodjaaaGreatLPut
namespace Go.Proofs.YtkigaclcmodjaaaGreat
open Go.RowKit
set_option linter.unusedSimpArgs false
set_option linter.unusedVariables false

theorem rlinfo (l : Lab) : (Tryz.prog.info? 38).map (·.size) = some l.cells.length := by rw [lab_len]; kernel_rfl
theorem rlinfoA (l : Lab) : (Tryz.prog.info? 38).map (·.size) = some l.cells.toArray.size := by rw [List.size_toArray, lab_len]; kernel_rfl
set_option maxRecDepth 20000 in
theorem rdot5_any (l : Lab) (W : World) : Calls Tryz.prog 76 #[.agg l.cells.toArray] W fun e W' => e = .returned (.agg #[.int .i64 l.nd, .int .u32 (l.n : Nat)]) ∧ Below W.heap.size W W' := by
  have b0 : Below W.heap.size W (W.alloc (.cells l.cells.toArray 38)) := (Below.refl _ W).alloc (Nat.le_refl _) _
  have q1 := lab_1 (l := l)
  have q2 := lab_2 (l := l)
  go_enter Tryz.func76, Tryz.ntmps76
  go_wp2_with fail
  all_goals
    refine bodyPost_ret (v := .agg #[.int .i64 l.nd, .int .u32 (l.n : Nat)]) (by simp [results, Tryz.results76, go_sem]) rfl ⟨rfl, by (repeat' (first | exact Below.refl _ _ | assumption | (with_reducible refine below_alloc' ?_) | (with_reducible refine Below.drew ?_) | (with_reducible refine below_next' (by assumption) ?_) | (with_reducible refine below_setRow ?_ ?_ _) | (with_reducible refine Below.setCell ?_ ?_ _) | (with_reducible refine below_next (by assumption) ?_ ?_) | (with_reducible refine Below.alloc ?_ ?_ _) | exact Nat.le_refl _ | (exact below_size (by assumption)) | (with_reducible refine size_alloc ?_) | (with_reducible refine size_setRow' ?_) | (with_reducible refine size_setCell' ?_) | (with_reducible refine size_next (by assumption) ?_) | omega | (simp; done) | (simp; omega)))⟩
theorem rightR_eq (l : Lab) (hm : maxK l.f 11 ≤ 1048576) : rightL l = (decide (0 < l.t) && (decide (((l.t : Nat) : Int) ≤ 1099511627776) && (decide (0 < l.ca) && (decide (l.ca < 13) && (decide (0 ≤ l.se) && (decide (l.se < 13) && (rightB l.nd l.n && (((getN l.f l.nd : Nat) : Int) + 1 == (l.n : Nat))))))))) := by
  unfold rightL timeB placeB nextB rightB
  rw [Bool.eq_iff_iff]
  simp only [Bool.and_eq_true, decide_eq_true_eq, beq_iff_eq]
  constructor
  · intro h
    obtain ⟨⟨⟨h1, h2⟩, ⟨h7, h8⟩, h9⟩, _⟩ := h
    refine ⟨by omega, by omega, by omega, by omega, by omega, by omega, ⟨h7, by omega, by omega⟩, by omega⟩
  · intro h
    obtain ⟨h1, h2, h3, h4, h5, h6, ⟨h7, h8, h9⟩, h10⟩ := h
    refine ⟨⟨⟨⟨by omega, by omega⟩, ⟨⟨by omega, by omega⟩, by omega⟩, by omega⟩, ⟨h7, by omega⟩, by omega⟩, hm⟩
theorem getN_lt (f : Nat → Nat) (n : Int) (hf : ∀ i, f i < 4294967296) : getN f n < 4294967296 := by
  unfold getN
  split
  · exact hf _
  · decide
set_option maxRecDepth 20000 in
set_option maxHeartbeats 16000000 in
theorem rright5_any (l : Lab) (hf : ∀ i, l.f i < 4294967296) (hn : l.n < 4294967296) (W : World) : Calls Tryz.prog 50 #[.agg l.cells.toArray] W fun e W' => e = .returned (.bool (rightL l)) ∧ Below W.heap.size W W' := by
  have hb0 := (Below.refl W.heap.size W).alloc (Nat.le_refl _) (.cells l.cells.toArray 38)
  have hbk := Blk.new W 38 l.cells.toArray
  go_enter Tryz.func50, Tryz.ntmps50
  go_upto_region 1 with fail
  obtain ⟨x1, hx1⟩ : ∃ x1, x1 = W.alloc (.cells l.cells.toArray 38) := ⟨_, rfl⟩
  rw [← hx1] at hb0 hbk ⊢
  have HB := Lib.hid hb0
  have HBK := Lib.hid hbk
  clear hx1 hb0 hbk
  have HF := Lib.hid (show ∀ w', Below x1.heap.size x1 w' → w'.cell? ⟨W.heap.size, 0, none⟩ = some (.int .u64 (l.t : Nat)) ∧ w'.cell? ⟨W.heap.size, 1, none⟩ = some (.int .i64 l.nd) ∧ w'.cell? ⟨W.heap.size, 2, none⟩ = some (.int .u32 (l.n : Nat)) ∧ w'.cell? ⟨W.heap.size, 3, none⟩ = some (.int .i64 l.ca) ∧ w'.cell? ⟨W.heap.size, 4, none⟩ = some (.int .i64 l.se) from fun w' hb => by
    have hc : ∀ i, w'.cell? ⟨W.heap.size, i, none⟩ = l.cells[i]? := fun i => by rw [(HBK.out.next hb).cell, List.getElem?_toArray]
    exact ⟨(hc 0).trans lab_0, (hc 1).trans lab_1, (hc 2).trans lab_2, (hc 3).trans lab_3, (hc 4).trans lab_4⟩)
  have HRG := Lib.hid (show ∀ w', Below x1.heap.size x1 w' → w'.rangeAt W.heap.size 0 l.cells from fun w' hb => (HBK.out.next hb).range)
  have HVG := Lib.hid (show ∀ w', Below x1.heap.size x1 w' → w'.rangeAt W.heap.size 5 (vl l.f) from fun w' hb j v hv => by rw [(HBK.out.next hb).cell, List.getElem?_toArray, lab_5, hv])
  go_wp2_with fail
  go_loopw [3] (fun i wr => ∃ j : Nat, j ≤ 12 ∧ i = .int .i64 (j : Nat) ∧ (∀ i, i < j → l.f i ≤ 1048576) ∧ wr = x1) (fun i _ => 12 - (intOf i).toNat)
  case atStart => exact ⟨0, by omega, rfl, fun i hi => by omega, rfl⟩
  case round =>
    obtain ⟨j, hj, rfl, hall, rfl⟩ := hrel
    by_cases hlt : j < 12
    · have cv := HVG.out wr (Below.refl _ _) j (.int .u32 (l.f j : Nat)) (vl_get hlt)
      have i1 : (j : Int) < 12 := by omega
      have HALL := Lib.hid hall
      obtain ⟨x, hx⟩ : ∃ x, x = l.f j := ⟨_, rfl⟩
      rw [← hx] at cv
      have HX := Lib.hid hx
      clear hall hx
      by_cases hm : x ≤ 1048576
      · have f1 : ¬ (1048576 : Int) < (x : Nat) := by omega
        have HM := Lib.hid hm
        clear hm
        go_wp2_with fail
        go_roundw
        case rel => exact ⟨j + 1, by omega, by go_num, fun i hi => by rcases Nat.lt_succ_iff_lt_or_eq.1 hi with h | h; exact HALL.out i h; rw [h, ← HX.out]; exact HM.out, trivial⟩
        case measure => simp [intOf]; omega
      · have f1 : (1048576 : Int) < (x : Nat) := by omega
        have HFL := Lib.hid (show rightL l = false from by
          unfold rightL
          rw [Bool.and_eq_false_iff]
          right
          rw [decide_eq_false_iff_not, maxK_le]
          intro h
          have := h j (by omega)
          rw [← HX.out] at this
          exact hm this)
        clear hm
        go_wp2_with fail
        go_ret
        exact ⟨by rw [HFL.out]; rfl, HB.out⟩
    · obtain rfl : j = 12 := by omega
      have hmax : maxK l.f 11 ≤ 1048576 := (maxK_le l.f 1048576 11).2 (fun i hi => hall i (by omega))
      clear hall hlt hj
      cases g1 : decide (0 < l.t) with
      | false =>
        have HFL := Lib.hid (show rightL l = false from by rw [rightR_eq l hmax, g1]; simp)
        go_upto_region 6 with fail
        refine wp_region_tree (S := (fun w => Below wr.heap.size wr w)) (.take 0 (.take 1 (.take 2 (.take 3 (.take 4 (.take 5 (.take 6 (.take 7 (.take 8 (.take 9 (.take 10 (.take 11 (.take 12 (.take 13 (.take 14 (.take 15 (.take 16 (.take 17 (.take 18 (.take 19 (.take 20 (.take 21 (.take 22 (.take 23 (.take 24 (.take 25 (.take 26 (.take 27 (.take 28 (.take 29 (.one 30 (.one 31 (.take 32 (.take 33 (.take 34 (.take 35 (.take 36 (.take 37 (.take 41 (.take 42 (.take 43 (.one 38 (.take 39 (.take 40 (.take 44 (.take 45 (.take 46 .nil))))))))))))))))))))))))))))))))))))))))))))))) 9999 (by kernel_rfl) (by kernel_rfl) (by kernel_rfl) (by kernel_rfl) (by kernel_rfl) (fun _ _ d _ _ h => by cases d <;> exact h) ?_ (fun hHeld => ?_); (focus (exact (Below.refl _ _).drew)); simp only [Tree.map, List.getElem?_toArray, List.getElem?_cons_zero, List.getElem?_cons_succ]
        (repeat (first | (refine wpTree.take (v := undef) (Or.inr ⟨by rfl, rfl⟩) ?_; simp only [Act.put, List.setIfInBounds_toArray, List.set_cons_zero, List.set_cons_succ]) | (refine wpTree.take (v := .agg (Lab.cells l).toArray) (yieldsIf_load_mid rfl 38 _ rfl _ _ rfl (Lab.cells l) _ (fun _ hS => HRG.out _ hS) Tryz.underlying38 rfl (rlinfo _)) ?_; simp only [Act.put, List.setIfInBounds_toArray, List.set_cons_zero, List.set_cons_succ]) | (refine wpTree.take (v := .agg (vl l.f).toArray) (yieldsIf_load_mid rfl 25 _ rfl _ _ rfl (vl l.f) _ (fun _ hS => HVG.out _ hS) Tryz.underlying25 rfl (vinfoL _)) ?_; simp only [Act.put, List.setIfInBounds_toArray, List.set_cons_zero, List.set_cons_succ]) | (refine wpTree.take (v := ?_) (Or.inl ⟨by rfl, ?_⟩) ?_; rotate_left; (focus (intro w9 hS; obtain ⟨q0, q1, q2, q3, q4⟩ := HF.out w9 hS; go_simp; (try (with_reducible rfl)); done)); simp only [Act.put, List.setIfInBounds_toArray, List.set_cons_zero, List.set_cons_succ])))
        refine wpTree.one (fun K hK => ?_)
        go_simp
        refine hK.out _ _ hHeld (fun _ => ?_)
        clear hK K
        (try simp only [Act.put, List.setIfInBounds_toArray, List.set_cons_zero, List.set_cons_succ])
        (repeat (first | (refine wpTree.take (v := undef) (Or.inr ⟨by rfl, rfl⟩) ?_; simp only [Act.put, List.setIfInBounds_toArray, List.set_cons_zero, List.set_cons_succ]) | (refine wpTree.take (v := .agg (Lab.cells l).toArray) (yieldsIf_load_mid rfl 38 _ rfl _ _ rfl (Lab.cells l) _ (fun _ hS => HRG.out _ hS) Tryz.underlying38 rfl (rlinfo _)) ?_; simp only [Act.put, List.setIfInBounds_toArray, List.set_cons_zero, List.set_cons_succ]) | (refine wpTree.take (v := .agg (vl l.f).toArray) (yieldsIf_load_mid rfl 25 _ rfl _ _ rfl (vl l.f) _ (fun _ hS => HVG.out _ hS) Tryz.underlying25 rfl (vinfoL _)) ?_; simp only [Act.put, List.setIfInBounds_toArray, List.set_cons_zero, List.set_cons_succ]) | (refine wpTree.take (v := ?_) (Or.inl ⟨by rfl, ?_⟩) ?_; rotate_left; (focus (intro w9 hS; obtain ⟨q0, q1, q2, q3, q4⟩ := HF.out w9 hS; go_simp; (try (with_reducible rfl)); done)); simp only [Act.put, List.setIfInBounds_toArray, List.set_cons_zero, List.set_cons_succ])))
        refine wpTree.one (fun K hK => ?_)
        go_simp
        refine hK.out _ _ hHeld (fun _ => ?_)
        clear hK K
        (try simp only [Act.put, List.setIfInBounds_toArray, List.set_cons_zero, List.set_cons_succ])
        (repeat (first | (refine wpTree.take (v := undef) (Or.inr ⟨by rfl, rfl⟩) ?_; simp only [Act.put, List.setIfInBounds_toArray, List.set_cons_zero, List.set_cons_succ]) | (refine wpTree.take (v := .agg (Lab.cells l).toArray) (yieldsIf_load_mid rfl 38 _ rfl _ _ rfl (Lab.cells l) _ (fun _ hS => HRG.out _ hS) Tryz.underlying38 rfl (rlinfo _)) ?_; simp only [Act.put, List.setIfInBounds_toArray, List.set_cons_zero, List.set_cons_succ]) | (refine wpTree.take (v := .agg (vl l.f).toArray) (yieldsIf_load_mid rfl 25 _ rfl _ _ rfl (vl l.f) _ (fun _ hS => HVG.out _ hS) Tryz.underlying25 rfl (vinfoL _)) ?_; simp only [Act.put, List.setIfInBounds_toArray, List.set_cons_zero, List.set_cons_succ]) | (refine wpTree.take (v := ?_) (Or.inl ⟨by rfl, ?_⟩) ?_; rotate_left; (focus (intro w9 hS; obtain ⟨q0, q1, q2, q3, q4⟩ := HF.out w9 hS; go_simp; (try (with_reducible rfl)); done)); simp only [Act.put, List.setIfInBounds_toArray, List.set_cons_zero, List.set_cons_succ])))
        refine wpTree.one (fun K hK => ?_)
        go_simp
        refine hK.out _ _ hHeld (fun _ => ?_)
        clear hK K
        (try simp only [Act.put, List.setIfInBounds_toArray, List.set_cons_zero, List.set_cons_succ])
        (repeat (first | (refine wpTree.take (v := undef) (Or.inr ⟨by rfl, rfl⟩) ?_; simp only [Act.put, List.setIfInBounds_toArray, List.set_cons_zero, List.set_cons_succ]) | (refine wpTree.take (v := .agg (Lab.cells l).toArray) (yieldsIf_load_mid rfl 38 _ rfl _ _ rfl (Lab.cells l) _ (fun _ hS => HRG.out _ hS) Tryz.underlying38 rfl (rlinfo _)) ?_; simp only [Act.put, List.setIfInBounds_toArray, List.set_cons_zero, List.set_cons_succ]) | (refine wpTree.take (v := .agg (vl l.f).toArray) (yieldsIf_load_mid rfl 25 _ rfl _ _ rfl (vl l.f) _ (fun _ hS => HVG.out _ hS) Tryz.underlying25 rfl (vinfoL _)) ?_; simp only [Act.put, List.setIfInBounds_toArray, List.set_cons_zero, List.set_cons_succ]) | (refine wpTree.take (v := ?_) (Or.inl ⟨by rfl, ?_⟩) ?_; rotate_left; (focus (intro w9 hS; obtain ⟨q0, q1, q2, q3, q4⟩ := HF.out w9 hS; go_simp; (try (with_reducible rfl)); done)); simp only [Act.put, List.setIfInBounds_toArray, List.set_cons_zero, List.set_cons_succ])))
        refine wpTree.done ?_
        have HZ := Lib.hid (HB.out.trans (hHeld.mono HB.out.size))
        clear hHeld
        go_wp2_with fail
        go_ret
        exact ⟨by rw [HFL.out]; rfl, HZ.out⟩
      | true =>
        cases g2 : decide (((l.t : Nat) : Int) ≤ 1099511627776) with
        | false =>
          have HFL := Lib.hid (show rightL l = false from by rw [rightR_eq l hmax, g2]; simp)
          go_upto_region 6 with fail
          refine wp_region_tree (S := (fun w => Below wr.heap.size wr w)) (.take 0 (.take 1 (.take 2 (.take 3 (.take 4 (.take 5 (.take 6 (.take 7 (.take 8 (.take 9 (.take 10 (.take 11 (.take 12 (.take 13 (.take 14 (.take 15 (.take 16 (.take 17 (.take 18 (.take 19 (.take 20 (.take 21 (.take 22 (.take 23 (.take 24 (.take 25 (.take 26 (.take 27 (.take 28 (.take 29 (.one 30 (.one 31 (.take 32 (.take 33 (.take 34 (.take 35 (.take 36 (.take 37 (.take 41 (.take 42 (.take 43 (.one 38 (.take 39 (.take 40 (.take 44 (.take 45 (.take 46 .nil))))))))))))))))))))))))))))))))))))))))))))))) 9999 (by kernel_rfl) (by kernel_rfl) (by kernel_rfl) (by kernel_rfl) (by kernel_rfl) (fun _ _ d _ _ h => by cases d <;> exact h) ?_ (fun hHeld => ?_); (focus (exact (Below.refl _ _).drew)); simp only [Tree.map, List.getElem?_toArray, List.getElem?_cons_zero, List.getElem?_cons_succ]
          (repeat (first | (refine wpTree.take (v := undef) (Or.inr ⟨by rfl, rfl⟩) ?_; simp only [Act.put, List.setIfInBounds_toArray, List.set_cons_zero, List.set_cons_succ]) | (refine wpTree.take (v := .agg (Lab.cells l).toArray) (yieldsIf_load_mid rfl 38 _ rfl _ _ rfl (Lab.cells l) _ (fun _ hS => HRG.out _ hS) Tryz.underlying38 rfl (rlinfo _)) ?_; simp only [Act.put, List.setIfInBounds_toArray, List.set_cons_zero, List.set_cons_succ]) | (refine wpTree.take (v := .agg (vl l.f).toArray) (yieldsIf_load_mid rfl 25 _ rfl _ _ rfl (vl l.f) _ (fun _ hS => HVG.out _ hS) Tryz.underlying25 rfl (vinfoL _)) ?_; simp only [Act.put, List.setIfInBounds_toArray, List.set_cons_zero, List.set_cons_succ]) | (refine wpTree.take (v := ?_) (Or.inl ⟨by rfl, ?_⟩) ?_; rotate_left; (focus (intro w9 hS; obtain ⟨q0, q1, q2, q3, q4⟩ := HF.out w9 hS; go_simp; (try (with_reducible rfl)); done)); simp only [Act.put, List.setIfInBounds_toArray, List.set_cons_zero, List.set_cons_succ])))
          refine wpTree.one (fun K hK => ?_)
          go_simp
          refine hK.out _ _ hHeld (fun _ => ?_)
          clear hK K
          (try simp only [Act.put, List.setIfInBounds_toArray, List.set_cons_zero, List.set_cons_succ])
          (repeat (first | (refine wpTree.take (v := undef) (Or.inr ⟨by rfl, rfl⟩) ?_; simp only [Act.put, List.setIfInBounds_toArray, List.set_cons_zero, List.set_cons_succ]) | (refine wpTree.take (v := .agg (Lab.cells l).toArray) (yieldsIf_load_mid rfl 38 _ rfl _ _ rfl (Lab.cells l) _ (fun _ hS => HRG.out _ hS) Tryz.underlying38 rfl (rlinfo _)) ?_; simp only [Act.put, List.setIfInBounds_toArray, List.set_cons_zero, List.set_cons_succ]) | (refine wpTree.take (v := .agg (vl l.f).toArray) (yieldsIf_load_mid rfl 25 _ rfl _ _ rfl (vl l.f) _ (fun _ hS => HVG.out _ hS) Tryz.underlying25 rfl (vinfoL _)) ?_; simp only [Act.put, List.setIfInBounds_toArray, List.set_cons_zero, List.set_cons_succ]) | (refine wpTree.take (v := ?_) (Or.inl ⟨by rfl, ?_⟩) ?_; rotate_left; (focus (intro w9 hS; obtain ⟨q0, q1, q2, q3, q4⟩ := HF.out w9 hS; go_simp; (try (with_reducible rfl)); done)); simp only [Act.put, List.setIfInBounds_toArray, List.set_cons_zero, List.set_cons_succ])))
          refine wpTree.one (fun K hK => ?_)
          go_simp
          refine hK.out _ _ hHeld (fun _ => ?_)
          clear hK K
          (try simp only [Act.put, List.setIfInBounds_toArray, List.set_cons_zero, List.set_cons_succ])
          (repeat (first | (refine wpTree.take (v := undef) (Or.inr ⟨by rfl, rfl⟩) ?_; simp only [Act.put, List.setIfInBounds_toArray, List.set_cons_zero, List.set_cons_succ]) | (refine wpTree.take (v := .agg (Lab.cells l).toArray) (yieldsIf_load_mid rfl 38 _ rfl _ _ rfl (Lab.cells l) _ (fun _ hS => HRG.out _ hS) Tryz.underlying38 rfl (rlinfo _)) ?_; simp only [Act.put, List.setIfInBounds_toArray, List.set_cons_zero, List.set_cons_succ]) | (refine wpTree.take (v := .agg (vl l.f).toArray) (yieldsIf_load_mid rfl 25 _ rfl _ _ rfl (vl l.f) _ (fun _ hS => HVG.out _ hS) Tryz.underlying25 rfl (vinfoL _)) ?_; simp only [Act.put, List.setIfInBounds_toArray, List.set_cons_zero, List.set_cons_succ]) | (refine wpTree.take (v := ?_) (Or.inl ⟨by rfl, ?_⟩) ?_; rotate_left; (focus (intro w9 hS; obtain ⟨q0, q1, q2, q3, q4⟩ := HF.out w9 hS; go_simp; (try (with_reducible rfl)); done)); simp only [Act.put, List.setIfInBounds_toArray, List.set_cons_zero, List.set_cons_succ])))
          refine wpTree.one (fun K hK => ?_)
          go_simp
          refine hK.out _ _ hHeld (fun _ => ?_)
          clear hK K
          (try simp only [Act.put, List.setIfInBounds_toArray, List.set_cons_zero, List.set_cons_succ])
          (repeat (first | (refine wpTree.take (v := undef) (Or.inr ⟨by rfl, rfl⟩) ?_; simp only [Act.put, List.setIfInBounds_toArray, List.set_cons_zero, List.set_cons_succ]) | (refine wpTree.take (v := .agg (Lab.cells l).toArray) (yieldsIf_load_mid rfl 38 _ rfl _ _ rfl (Lab.cells l) _ (fun _ hS => HRG.out _ hS) Tryz.underlying38 rfl (rlinfo _)) ?_; simp only [Act.put, List.setIfInBounds_toArray, List.set_cons_zero, List.set_cons_succ]) | (refine wpTree.take (v := .agg (vl l.f).toArray) (yieldsIf_load_mid rfl 25 _ rfl _ _ rfl (vl l.f) _ (fun _ hS => HVG.out _ hS) Tryz.underlying25 rfl (vinfoL _)) ?_; simp only [Act.put, List.setIfInBounds_toArray, List.set_cons_zero, List.set_cons_succ]) | (refine wpTree.take (v := ?_) (Or.inl ⟨by rfl, ?_⟩) ?_; rotate_left; (focus (intro w9 hS; obtain ⟨q0, q1, q2, q3, q4⟩ := HF.out w9 hS; go_simp; (try (with_reducible rfl)); done)); simp only [Act.put, List.setIfInBounds_toArray, List.set_cons_zero, List.set_cons_succ])))
          refine wpTree.done ?_
          have HZ := Lib.hid (HB.out.trans (hHeld.mono HB.out.size))
          clear hHeld
          go_wp2_with fail
          go_ret
          exact ⟨by rw [HFL.out]; rfl, HZ.out⟩
        | true =>
          cases g3 : decide (0 < l.ca) with
          | false =>
            have HFL := Lib.hid (show rightL l = false from by rw [rightR_eq l hmax, g3]; simp)
            go_upto_region 6 with fail
            refine wp_region_tree (S := (fun w => Below wr.heap.size wr w)) (.take 0 (.take 1 (.take 2 (.take 3 (.take 4 (.take 5 (.take 6 (.take 7 (.take 8 (.take 9 (.take 10 (.take 11 (.take 12 (.take 13 (.take 14 (.take 15 (.take 16 (.take 17 (.take 18 (.take 19 (.take 20 (.take 21 (.take 22 (.take 23 (.take 24 (.take 25 (.take 26 (.take 27 (.take 28 (.take 29 (.one 30 (.one 31 (.take 32 (.take 33 (.take 34 (.take 35 (.take 36 (.take 37 (.take 41 (.take 42 (.take 43 (.one 38 (.take 39 (.take 40 (.take 44 (.take 45 (.take 46 .nil))))))))))))))))))))))))))))))))))))))))))))))) 9999 (by kernel_rfl) (by kernel_rfl) (by kernel_rfl) (by kernel_rfl) (by kernel_rfl) (fun _ _ d _ _ h => by cases d <;> exact h) ?_ (fun hHeld => ?_); (focus (exact (Below.refl _ _).drew)); simp only [Tree.map, List.getElem?_toArray, List.getElem?_cons_zero, List.getElem?_cons_succ]
            (repeat (first | (refine wpTree.take (v := undef) (Or.inr ⟨by rfl, rfl⟩) ?_; simp only [Act.put, List.setIfInBounds_toArray, List.set_cons_zero, List.set_cons_succ]) | (refine wpTree.take (v := .agg (Lab.cells l).toArray) (yieldsIf_load_mid rfl 38 _ rfl _ _ rfl (Lab.cells l) _ (fun _ hS => HRG.out _ hS) Tryz.underlying38 rfl (rlinfo _)) ?_; simp only [Act.put, List.setIfInBounds_toArray, List.set_cons_zero, List.set_cons_succ]) | (refine wpTree.take (v := .agg (vl l.f).toArray) (yieldsIf_load_mid rfl 25 _ rfl _ _ rfl (vl l.f) _ (fun _ hS => HVG.out _ hS) Tryz.underlying25 rfl (vinfoL _)) ?_; simp only [Act.put, List.setIfInBounds_toArray, List.set_cons_zero, List.set_cons_succ]) | (refine wpTree.take (v := ?_) (Or.inl ⟨by rfl, ?_⟩) ?_; rotate_left; (focus (intro w9 hS; obtain ⟨q0, q1, q2, q3, q4⟩ := HF.out w9 hS; go_simp; (try (with_reducible rfl)); done)); simp only [Act.put, List.setIfInBounds_toArray, List.set_cons_zero, List.set_cons_succ])))
            refine wpTree.one (fun K hK => ?_)
            go_simp
            refine hK.out _ _ hHeld (fun _ => ?_)
            clear hK K
            (try simp only [Act.put, List.setIfInBounds_toArray, List.set_cons_zero, List.set_cons_succ])
            (repeat (first | (refine wpTree.take (v := undef) (Or.inr ⟨by rfl, rfl⟩) ?_; simp only [Act.put, List.setIfInBounds_toArray, List.set_cons_zero, List.set_cons_succ]) | (refine wpTree.take (v := .agg (Lab.cells l).toArray) (yieldsIf_load_mid rfl 38 _ rfl _ _ rfl (Lab.cells l) _ (fun _ hS => HRG.out _ hS) Tryz.underlying38 rfl (rlinfo _)) ?_; simp only [Act.put, List.setIfInBounds_toArray, List.set_cons_zero, List.set_cons_succ]) | (refine wpTree.take (v := .agg (vl l.f).toArray) (yieldsIf_load_mid rfl 25 _ rfl _ _ rfl (vl l.f) _ (fun _ hS => HVG.out _ hS) Tryz.underlying25 rfl (vinfoL _)) ?_; simp only [Act.put, List.setIfInBounds_toArray, List.set_cons_zero, List.set_cons_succ]) | (refine wpTree.take (v := ?_) (Or.inl ⟨by rfl, ?_⟩) ?_; rotate_left; (focus (intro w9 hS; obtain ⟨q0, q1, q2, q3, q4⟩ := HF.out w9 hS; go_simp; (try (with_reducible rfl)); done)); simp only [Act.put, List.setIfInBounds_toArray, List.set_cons_zero, List.set_cons_succ])))
            refine wpTree.one (fun K hK => ?_)
            go_simp
            refine hK.out _ _ hHeld (fun _ => ?_)
            clear hK K
            (try simp only [Act.put, List.setIfInBounds_toArray, List.set_cons_zero, List.set_cons_succ])
            (repeat (first | (refine wpTree.take (v := undef) (Or.inr ⟨by rfl, rfl⟩) ?_; simp only [Act.put, List.setIfInBounds_toArray, List.set_cons_zero, List.set_cons_succ]) | (refine wpTree.take (v := .agg (Lab.cells l).toArray) (yieldsIf_load_mid rfl 38 _ rfl _ _ rfl (Lab.cells l) _ (fun _ hS => HRG.out _ hS) Tryz.underlying38 rfl (rlinfo _)) ?_; simp only [Act.put, List.setIfInBounds_toArray, List.set_cons_zero, List.set_cons_succ]) | (refine wpTree.take (v := .agg (vl l.f).toArray) (yieldsIf_load_mid rfl 25 _ rfl _ _ rfl (vl l.f) _ (fun _ hS => HVG.out _ hS) Tryz.underlying25 rfl (vinfoL _)) ?_; simp only [Act.put, List.setIfInBounds_toArray, List.set_cons_zero, List.set_cons_succ]) | (refine wpTree.take (v := ?_) (Or.inl ⟨by rfl, ?_⟩) ?_; rotate_left; (focus (intro w9 hS; obtain ⟨q0, q1, q2, q3, q4⟩ := HF.out w9 hS; go_simp; (try (with_reducible rfl)); done)); simp only [Act.put, List.setIfInBounds_toArray, List.set_cons_zero, List.set_cons_succ])))
            refine wpTree.one (fun K hK => ?_)
            go_simp
            refine hK.out _ _ hHeld (fun _ => ?_)
            clear hK K
            (try simp only [Act.put, List.setIfInBounds_toArray, List.set_cons_zero, List.set_cons_succ])
            (repeat (first | (refine wpTree.take (v := undef) (Or.inr ⟨by rfl, rfl⟩) ?_; simp only [Act.put, List.setIfInBounds_toArray, List.set_cons_zero, List.set_cons_succ]) | (refine wpTree.take (v := .agg (Lab.cells l).toArray) (yieldsIf_load_mid rfl 38 _ rfl _ _ rfl (Lab.cells l) _ (fun _ hS => HRG.out _ hS) Tryz.underlying38 rfl (rlinfo _)) ?_; simp only [Act.put, List.setIfInBounds_toArray, List.set_cons_zero, List.set_cons_succ]) | (refine wpTree.take (v := .agg (vl l.f).toArray) (yieldsIf_load_mid rfl 25 _ rfl _ _ rfl (vl l.f) _ (fun _ hS => HVG.out _ hS) Tryz.underlying25 rfl (vinfoL _)) ?_; simp only [Act.put, List.setIfInBounds_toArray, List.set_cons_zero, List.set_cons_succ]) | (refine wpTree.take (v := ?_) (Or.inl ⟨by rfl, ?_⟩) ?_; rotate_left; (focus (intro w9 hS; obtain ⟨q0, q1, q2, q3, q4⟩ := HF.out w9 hS; go_simp; (try (with_reducible rfl)); done)); simp only [Act.put, List.setIfInBounds_toArray, List.set_cons_zero, List.set_cons_succ])))
            refine wpTree.done ?_
            have HZ := Lib.hid (HB.out.trans (hHeld.mono HB.out.size))
            clear hHeld
            go_wp2_with fail
            go_ret
            exact ⟨by rw [HFL.out]; rfl, HZ.out⟩
          | true =>
            cases g4 : decide (l.ca < 13) with
            | false =>
              have HFL := Lib.hid (show rightL l = false from by rw [rightR_eq l hmax, g4]; simp)
              go_upto_region 6 with fail
              refine wp_region_tree (S := (fun w => Below wr.heap.size wr w)) (.take 0 (.take 1 (.take 2 (.take 3 (.take 4 (.take 5 (.take 6 (.take 7 (.take 8 (.take 9 (.take 10 (.take 11 (.take 12 (.take 13 (.take 14 (.take 15 (.take 16 (.take 17 (.take 18 (.take 19 (.take 20 (.take 21 (.take 22 (.take 23 (.take 24 (.take 25 (.take 26 (.take 27 (.take 28 (.take 29 (.one 30 (.one 31 (.take 32 (.take 33 (.take 34 (.take 35 (.take 36 (.take 37 (.take 41 (.take 42 (.take 43 (.one 38 (.take 39 (.take 40 (.take 44 (.take 45 (.take 46 .nil))))))))))))))))))))))))))))))))))))))))))))))) 9999 (by kernel_rfl) (by kernel_rfl) (by kernel_rfl) (by kernel_rfl) (by kernel_rfl) (fun _ _ d _ _ h => by cases d <;> exact h) ?_ (fun hHeld => ?_); (focus (exact (Below.refl _ _).drew)); simp only [Tree.map, List.getElem?_toArray, List.getElem?_cons_zero, List.getElem?_cons_succ]
              (repeat (first | (refine wpTree.take (v := undef) (Or.inr ⟨by rfl, rfl⟩) ?_; simp only [Act.put, List.setIfInBounds_toArray, List.set_cons_zero, List.set_cons_succ]) | (refine wpTree.take (v := .agg (Lab.cells l).toArray) (yieldsIf_load_mid rfl 38 _ rfl _ _ rfl (Lab.cells l) _ (fun _ hS => HRG.out _ hS) Tryz.underlying38 rfl (rlinfo _)) ?_; simp only [Act.put, List.setIfInBounds_toArray, List.set_cons_zero, List.set_cons_succ]) | (refine wpTree.take (v := .agg (vl l.f).toArray) (yieldsIf_load_mid rfl 25 _ rfl _ _ rfl (vl l.f) _ (fun _ hS => HVG.out _ hS) Tryz.underlying25 rfl (vinfoL _)) ?_; simp only [Act.put, List.setIfInBounds_toArray, List.set_cons_zero, List.set_cons_succ]) | (refine wpTree.take (v := ?_) (Or.inl ⟨by rfl, ?_⟩) ?_; rotate_left; (focus (intro w9 hS; obtain ⟨q0, q1, q2, q3, q4⟩ := HF.out w9 hS; go_simp; (try (with_reducible rfl)); done)); simp only [Act.put, List.setIfInBounds_toArray, List.set_cons_zero, List.set_cons_succ])))
              refine wpTree.one (fun K hK => ?_)
              go_simp
              refine hK.out _ _ hHeld (fun _ => ?_)
              clear hK K
              (try simp only [Act.put, List.setIfInBounds_toArray, List.set_cons_zero, List.set_cons_succ])
              (repeat (first | (refine wpTree.take (v := undef) (Or.inr ⟨by rfl, rfl⟩) ?_; simp only [Act.put, List.setIfInBounds_toArray, List.set_cons_zero, List.set_cons_succ]) | (refine wpTree.take (v := .agg (Lab.cells l).toArray) (yieldsIf_load_mid rfl 38 _ rfl _ _ rfl (Lab.cells l) _ (fun _ hS => HRG.out _ hS) Tryz.underlying38 rfl (rlinfo _)) ?_; simp only [Act.put, List.setIfInBounds_toArray, List.set_cons_zero, List.set_cons_succ]) | (refine wpTree.take (v := .agg (vl l.f).toArray) (yieldsIf_load_mid rfl 25 _ rfl _ _ rfl (vl l.f) _ (fun _ hS => HVG.out _ hS) Tryz.underlying25 rfl (vinfoL _)) ?_; simp only [Act.put, List.setIfInBounds_toArray, List.set_cons_zero, List.set_cons_succ]) | (refine wpTree.take (v := ?_) (Or.inl ⟨by rfl, ?_⟩) ?_; rotate_left; (focus (intro w9 hS; obtain ⟨q0, q1, q2, q3, q4⟩ := HF.out w9 hS; go_simp; (try (with_reducible rfl)); done)); simp only [Act.put, List.setIfInBounds_toArray, List.set_cons_zero, List.set_cons_succ])))
              refine wpTree.one (fun K hK => ?_)
              go_simp
              refine hK.out _ _ hHeld (fun _ => ?_)
              clear hK K
              (try simp only [Act.put, List.setIfInBounds_toArray, List.set_cons_zero, List.set_cons_succ])
              (repeat (first | (refine wpTree.take (v := undef) (Or.inr ⟨by rfl, rfl⟩) ?_; simp only [Act.put, List.setIfInBounds_toArray, List.set_cons_zero, List.set_cons_succ]) | (refine wpTree.take (v := .agg (Lab.cells l).toArray) (yieldsIf_load_mid rfl 38 _ rfl _ _ rfl (Lab.cells l) _ (fun _ hS => HRG.out _ hS) Tryz.underlying38 rfl (rlinfo _)) ?_; simp only [Act.put, List.setIfInBounds_toArray, List.set_cons_zero, List.set_cons_succ]) | (refine wpTree.take (v := .agg (vl l.f).toArray) (yieldsIf_load_mid rfl 25 _ rfl _ _ rfl (vl l.f) _ (fun _ hS => HVG.out _ hS) Tryz.underlying25 rfl (vinfoL _)) ?_; simp only [Act.put, List.setIfInBounds_toArray, List.set_cons_zero, List.set_cons_succ]) | (refine wpTree.take (v := ?_) (Or.inl ⟨by rfl, ?_⟩) ?_; rotate_left; (focus (intro w9 hS; obtain ⟨q0, q1, q2, q3, q4⟩ := HF.out w9 hS; go_simp; (try (with_reducible rfl)); done)); simp only [Act.put, List.setIfInBounds_toArray, List.set_cons_zero, List.set_cons_succ])))
              refine wpTree.one (fun K hK => ?_)
              go_simp
              refine hK.out _ _ hHeld (fun _ => ?_)
              clear hK K
              (try simp only [Act.put, List.setIfInBounds_toArray, List.set_cons_zero, List.set_cons_succ])
              (repeat (first | (refine wpTree.take (v := undef) (Or.inr ⟨by rfl, rfl⟩) ?_; simp only [Act.put, List.setIfInBounds_toArray, List.set_cons_zero, List.set_cons_succ]) | (refine wpTree.take (v := .agg (Lab.cells l).toArray) (yieldsIf_load_mid rfl 38 _ rfl _ _ rfl (Lab.cells l) _ (fun _ hS => HRG.out _ hS) Tryz.underlying38 rfl (rlinfo _)) ?_; simp only [Act.put, List.setIfInBounds_toArray, List.set_cons_zero, List.set_cons_succ]) | (refine wpTree.take (v := .agg (vl l.f).toArray) (yieldsIf_load_mid rfl 25 _ rfl _ _ rfl (vl l.f) _ (fun _ hS => HVG.out _ hS) Tryz.underlying25 rfl (vinfoL _)) ?_; simp only [Act.put, List.setIfInBounds_toArray, List.set_cons_zero, List.set_cons_succ]) | (refine wpTree.take (v := ?_) (Or.inl ⟨by rfl, ?_⟩) ?_; rotate_left; (focus (intro w9 hS; obtain ⟨q0, q1, q2, q3, q4⟩ := HF.out w9 hS; go_simp; (try (with_reducible rfl)); done)); simp only [Act.put, List.setIfInBounds_toArray, List.set_cons_zero, List.set_cons_succ])))
              refine wpTree.done ?_
              have HZ := Lib.hid (HB.out.trans (hHeld.mono HB.out.size))
              clear hHeld
              go_wp2_with fail
              go_ret
              exact ⟨by rw [HFL.out]; rfl, HZ.out⟩
            | true =>
              cases g5 : decide (0 ≤ l.se) with
              | false =>
                have HFL := Lib.hid (show rightL l = false from by rw [rightR_eq l hmax, g5]; simp)
                go_upto_region 6 with fail
                refine wp_region_tree (S := (fun w => Below wr.heap.size wr w)) (.take 0 (.take 1 (.take 2 (.take 3 (.take 4 (.take 5 (.take 6 (.take 7 (.take 8 (.take 9 (.take 10 (.take 11 (.take 12 (.take 13 (.take 14 (.take 15 (.take 16 (.take 17 (.take 18 (.take 19 (.take 20 (.take 21 (.take 22 (.take 23 (.take 24 (.take 25 (.take 26 (.take 27 (.take 28 (.take 29 (.one 30 (.one 31 (.take 32 (.take 33 (.take 34 (.take 35 (.take 36 (.take 37 (.take 41 (.take 42 (.take 43 (.one 38 (.take 39 (.take 40 (.take 44 (.take 45 (.take 46 .nil))))))))))))))))))))))))))))))))))))))))))))))) 9999 (by kernel_rfl) (by kernel_rfl) (by kernel_rfl) (by kernel_rfl) (by kernel_rfl) (fun _ _ d _ _ h => by cases d <;> exact h) ?_ (fun hHeld => ?_); (focus (exact (Below.refl _ _).drew)); simp only [Tree.map, List.getElem?_toArray, List.getElem?_cons_zero, List.getElem?_cons_succ]
                (repeat (first | (refine wpTree.take (v := undef) (Or.inr ⟨by rfl, rfl⟩) ?_; simp only [Act.put, List.setIfInBounds_toArray, List.set_cons_zero, List.set_cons_succ]) | (refine wpTree.take (v := .agg (Lab.cells l).toArray) (yieldsIf_load_mid rfl 38 _ rfl _ _ rfl (Lab.cells l) _ (fun _ hS => HRG.out _ hS) Tryz.underlying38 rfl (rlinfo _)) ?_; simp only [Act.put, List.setIfInBounds_toArray, List.set_cons_zero, List.set_cons_succ]) | (refine wpTree.take (v := .agg (vl l.f).toArray) (yieldsIf_load_mid rfl 25 _ rfl _ _ rfl (vl l.f) _ (fun _ hS => HVG.out _ hS) Tryz.underlying25 rfl (vinfoL _)) ?_; simp only [Act.put, List.setIfInBounds_toArray, List.set_cons_zero, List.set_cons_succ]) | (refine wpTree.take (v := ?_) (Or.inl ⟨by rfl, ?_⟩) ?_; rotate_left; (focus (intro w9 hS; obtain ⟨q0, q1, q2, q3, q4⟩ := HF.out w9 hS; go_simp; (try (with_reducible rfl)); done)); simp only [Act.put, List.setIfInBounds_toArray, List.set_cons_zero, List.set_cons_succ])))
                refine wpTree.one (fun K hK => ?_)
                go_simp
                refine hK.out _ _ hHeld (fun _ => ?_)
                clear hK K
                (try simp only [Act.put, List.setIfInBounds_toArray, List.set_cons_zero, List.set_cons_succ])
                (repeat (first | (refine wpTree.take (v := undef) (Or.inr ⟨by rfl, rfl⟩) ?_; simp only [Act.put, List.setIfInBounds_toArray, List.set_cons_zero, List.set_cons_succ]) | (refine wpTree.take (v := .agg (Lab.cells l).toArray) (yieldsIf_load_mid rfl 38 _ rfl _ _ rfl (Lab.cells l) _ (fun _ hS => HRG.out _ hS) Tryz.underlying38 rfl (rlinfo _)) ?_; simp only [Act.put, List.setIfInBounds_toArray, List.set_cons_zero, List.set_cons_succ]) | (refine wpTree.take (v := .agg (vl l.f).toArray) (yieldsIf_load_mid rfl 25 _ rfl _ _ rfl (vl l.f) _ (fun _ hS => HVG.out _ hS) Tryz.underlying25 rfl (vinfoL _)) ?_; simp only [Act.put, List.setIfInBounds_toArray, List.set_cons_zero, List.set_cons_succ]) | (refine wpTree.take (v := ?_) (Or.inl ⟨by rfl, ?_⟩) ?_; rotate_left; (focus (intro w9 hS; obtain ⟨q0, q1, q2, q3, q4⟩ := HF.out w9 hS; go_simp; (try (with_reducible rfl)); done)); simp only [Act.put, List.setIfInBounds_toArray, List.set_cons_zero, List.set_cons_succ])))
                refine wpTree.one (fun K hK => ?_)
                go_simp
                refine hK.out _ _ hHeld (fun _ => ?_)
                clear hK K
                (try simp only [Act.put, List.setIfInBounds_toArray, List.set_cons_zero, List.set_cons_succ])
                (repeat (first | (refine wpTree.take (v := undef) (Or.inr ⟨by rfl, rfl⟩) ?_; simp only [Act.put, List.setIfInBounds_toArray, List.set_cons_zero, List.set_cons_succ]) | (refine wpTree.take (v := .agg (Lab.cells l).toArray) (yieldsIf_load_mid rfl 38 _ rfl _ _ rfl (Lab.cells l) _ (fun _ hS => HRG.out _ hS) Tryz.underlying38 rfl (rlinfo _)) ?_; simp only [Act.put, List.setIfInBounds_toArray, List.set_cons_zero, List.set_cons_succ]) | (refine wpTree.take (v := .agg (vl l.f).toArray) (yieldsIf_load_mid rfl 25 _ rfl _ _ rfl (vl l.f) _ (fun _ hS => HVG.out _ hS) Tryz.underlying25 rfl (vinfoL _)) ?_; simp only [Act.put, List.setIfInBounds_toArray, List.set_cons_zero, List.set_cons_succ]) | (refine wpTree.take (v := ?_) (Or.inl ⟨by rfl, ?_⟩) ?_; rotate_left; (focus (intro w9 hS; obtain ⟨q0, q1, q2, q3, q4⟩ := HF.out w9 hS; go_simp; (try (with_reducible rfl)); done)); simp only [Act.put, List.setIfInBounds_toArray, List.set_cons_zero, List.set_cons_succ])))
                refine wpTree.one (fun K hK => ?_)
                go_simp
                refine hK.out _ _ hHeld (fun _ => ?_)
                clear hK K
                (try simp only [Act.put, List.setIfInBounds_toArray, List.set_cons_zero, List.set_cons_succ])
                (repeat (first | (refine wpTree.take (v := undef) (Or.inr ⟨by rfl, rfl⟩) ?_; simp only [Act.put, List.setIfInBounds_toArray, List.set_cons_zero, List.set_cons_succ]) | (refine wpTree.take (v := .agg (Lab.cells l).toArray) (yieldsIf_load_mid rfl 38 _ rfl _ _ rfl (Lab.cells l) _ (fun _ hS => HRG.out _ hS) Tryz.underlying38 rfl (rlinfo _)) ?_; simp only [Act.put, List.setIfInBounds_toArray, List.set_cons_zero, List.set_cons_succ]) | (refine wpTree.take (v := .agg (vl l.f).toArray) (yieldsIf_load_mid rfl 25 _ rfl _ _ rfl (vl l.f) _ (fun _ hS => HVG.out _ hS) Tryz.underlying25 rfl (vinfoL _)) ?_; simp only [Act.put, List.setIfInBounds_toArray, List.set_cons_zero, List.set_cons_succ]) | (refine wpTree.take (v := ?_) (Or.inl ⟨by rfl, ?_⟩) ?_; rotate_left; (focus (intro w9 hS; obtain ⟨q0, q1, q2, q3, q4⟩ := HF.out w9 hS; go_simp; (try (with_reducible rfl)); done)); simp only [Act.put, List.setIfInBounds_toArray, List.set_cons_zero, List.set_cons_succ])))
                refine wpTree.done ?_
                have HZ := Lib.hid (HB.out.trans (hHeld.mono HB.out.size))
                clear hHeld
                go_wp2_with fail
                go_ret
                exact ⟨by rw [HFL.out]; rfl, HZ.out⟩
              | true =>
                cases g6 : decide (l.se < 13) with
                | false =>
                  have HFL := Lib.hid (show rightL l = false from by rw [rightR_eq l hmax, g6]; simp)
                  go_upto_region 6 with fail
                  refine wp_region_tree (S := (fun w => Below wr.heap.size wr w)) (.take 0 (.take 1 (.take 2 (.take 3 (.take 4 (.take 5 (.take 6 (.take 7 (.take 8 (.take 9 (.take 10 (.take 11 (.take 12 (.take 13 (.take 14 (.take 15 (.take 16 (.take 17 (.take 18 (.take 19 (.take 20 (.take 21 (.take 22 (.take 23 (.take 24 (.take 25 (.take 26 (.take 27 (.take 28 (.take 29 (.one 30 (.one 31 (.take 32 (.take 33 (.take 34 (.take 35 (.take 36 (.take 37 (.take 41 (.take 42 (.take 43 (.one 38 (.take 39 (.take 40 (.take 44 (.take 45 (.take 46 .nil))))))))))))))))))))))))))))))))))))))))))))))) 9999 (by kernel_rfl) (by kernel_rfl) (by kernel_rfl) (by kernel_rfl) (by kernel_rfl) (fun _ _ d _ _ h => by cases d <;> exact h) ?_ (fun hHeld => ?_); (focus (exact (Below.refl _ _).drew)); simp only [Tree.map, List.getElem?_toArray, List.getElem?_cons_zero, List.getElem?_cons_succ]
                  (repeat (first | (refine wpTree.take (v := undef) (Or.inr ⟨by rfl, rfl⟩) ?_; simp only [Act.put, List.setIfInBounds_toArray, List.set_cons_zero, List.set_cons_succ]) | (refine wpTree.take (v := .agg (Lab.cells l).toArray) (yieldsIf_load_mid rfl 38 _ rfl _ _ rfl (Lab.cells l) _ (fun _ hS => HRG.out _ hS) Tryz.underlying38 rfl (rlinfo _)) ?_; simp only [Act.put, List.setIfInBounds_toArray, List.set_cons_zero, List.set_cons_succ]) | (refine wpTree.take (v := .agg (vl l.f).toArray) (yieldsIf_load_mid rfl 25 _ rfl _ _ rfl (vl l.f) _ (fun _ hS => HVG.out _ hS) Tryz.underlying25 rfl (vinfoL _)) ?_; simp only [Act.put, List.setIfInBounds_toArray, List.set_cons_zero, List.set_cons_succ]) | (refine wpTree.take (v := ?_) (Or.inl ⟨by rfl, ?_⟩) ?_; rotate_left; (focus (intro w9 hS; obtain ⟨q0, q1, q2, q3, q4⟩ := HF.out w9 hS; go_simp; (try (with_reducible rfl)); done)); simp only [Act.put, List.setIfInBounds_toArray, List.set_cons_zero, List.set_cons_succ])))
                  refine wpTree.one (fun K hK => ?_)
                  go_simp
                  refine hK.out _ _ hHeld (fun _ => ?_)
                  clear hK K
                  (try simp only [Act.put, List.setIfInBounds_toArray, List.set_cons_zero, List.set_cons_succ])
                  (repeat (first | (refine wpTree.take (v := undef) (Or.inr ⟨by rfl, rfl⟩) ?_; simp only [Act.put, List.setIfInBounds_toArray, List.set_cons_zero, List.set_cons_succ]) | (refine wpTree.take (v := .agg (Lab.cells l).toArray) (yieldsIf_load_mid rfl 38 _ rfl _ _ rfl (Lab.cells l) _ (fun _ hS => HRG.out _ hS) Tryz.underlying38 rfl (rlinfo _)) ?_; simp only [Act.put, List.setIfInBounds_toArray, List.set_cons_zero, List.set_cons_succ]) | (refine wpTree.take (v := .agg (vl l.f).toArray) (yieldsIf_load_mid rfl 25 _ rfl _ _ rfl (vl l.f) _ (fun _ hS => HVG.out _ hS) Tryz.underlying25 rfl (vinfoL _)) ?_; simp only [Act.put, List.setIfInBounds_toArray, List.set_cons_zero, List.set_cons_succ]) | (refine wpTree.take (v := ?_) (Or.inl ⟨by rfl, ?_⟩) ?_; rotate_left; (focus (intro w9 hS; obtain ⟨q0, q1, q2, q3, q4⟩ := HF.out w9 hS; go_simp; (try (with_reducible rfl)); done)); simp only [Act.put, List.setIfInBounds_toArray, List.set_cons_zero, List.set_cons_succ])))
                  refine wpTree.one (fun K hK => ?_)
                  go_simp
                  refine hK.out _ _ hHeld (fun _ => ?_)
                  clear hK K
                  (try simp only [Act.put, List.setIfInBounds_toArray, List.set_cons_zero, List.set_cons_succ])
                  (repeat (first | (refine wpTree.take (v := undef) (Or.inr ⟨by rfl, rfl⟩) ?_; simp only [Act.put, List.setIfInBounds_toArray, List.set_cons_zero, List.set_cons_succ]) | (refine wpTree.take (v := .agg (Lab.cells l).toArray) (yieldsIf_load_mid rfl 38 _ rfl _ _ rfl (Lab.cells l) _ (fun _ hS => HRG.out _ hS) Tryz.underlying38 rfl (rlinfo _)) ?_; simp only [Act.put, List.setIfInBounds_toArray, List.set_cons_zero, List.set_cons_succ]) | (refine wpTree.take (v := .agg (vl l.f).toArray) (yieldsIf_load_mid rfl 25 _ rfl _ _ rfl (vl l.f) _ (fun _ hS => HVG.out _ hS) Tryz.underlying25 rfl (vinfoL _)) ?_; simp only [Act.put, List.setIfInBounds_toArray, List.set_cons_zero, List.set_cons_succ]) | (refine wpTree.take (v := ?_) (Or.inl ⟨by rfl, ?_⟩) ?_; rotate_left; (focus (intro w9 hS; obtain ⟨q0, q1, q2, q3, q4⟩ := HF.out w9 hS; go_simp; (try (with_reducible rfl)); done)); simp only [Act.put, List.setIfInBounds_toArray, List.set_cons_zero, List.set_cons_succ])))
                  refine wpTree.one (fun K hK => ?_)
                  go_simp
                  refine hK.out _ _ hHeld (fun _ => ?_)
                  clear hK K
                  (try simp only [Act.put, List.setIfInBounds_toArray, List.set_cons_zero, List.set_cons_succ])
                  (repeat (first | (refine wpTree.take (v := undef) (Or.inr ⟨by rfl, rfl⟩) ?_; simp only [Act.put, List.setIfInBounds_toArray, List.set_cons_zero, List.set_cons_succ]) | (refine wpTree.take (v := .agg (Lab.cells l).toArray) (yieldsIf_load_mid rfl 38 _ rfl _ _ rfl (Lab.cells l) _ (fun _ hS => HRG.out _ hS) Tryz.underlying38 rfl (rlinfo _)) ?_; simp only [Act.put, List.setIfInBounds_toArray, List.set_cons_zero, List.set_cons_succ]) | (refine wpTree.take (v := .agg (vl l.f).toArray) (yieldsIf_load_mid rfl 25 _ rfl _ _ rfl (vl l.f) _ (fun _ hS => HVG.out _ hS) Tryz.underlying25 rfl (vinfoL _)) ?_; simp only [Act.put, List.setIfInBounds_toArray, List.set_cons_zero, List.set_cons_succ]) | (refine wpTree.take (v := ?_) (Or.inl ⟨by rfl, ?_⟩) ?_; rotate_left; (focus (intro w9 hS; obtain ⟨q0, q1, q2, q3, q4⟩ := HF.out w9 hS; go_simp; (try (with_reducible rfl)); done)); simp only [Act.put, List.setIfInBounds_toArray, List.set_cons_zero, List.set_cons_succ])))
                  refine wpTree.done ?_
                  have HZ := Lib.hid (HB.out.trans (hHeld.mono HB.out.size))
                  clear hHeld
                  go_wp2_with fail
                  go_ret
                  exact ⟨by rw [HFL.out]; rfl, HZ.out⟩
                | true =>
                  cases hrb : rightB l.nd l.n with
                  | false =>
                    have HFL := Lib.hid (show rightL l = false from by rw [rightR_eq l hmax, hrb]; simp)
                    have RR := rright_any l.nd l.n
                    rw [hrb] at RR
                    clear hrb
                    go_upto_region 6 with fail
                    refine wp_region_tree (S := (fun w => Below wr.heap.size wr w)) (.take 0 (.take 1 (.take 2 (.take 3 (.take 4 (.take 5 (.take 6 (.take 7 (.take 8 (.take 9 (.take 10 (.take 11 (.take 12 (.take 13 (.take 14 (.take 15 (.take 16 (.take 17 (.take 18 (.take 19 (.take 20 (.take 21 (.take 22 (.take 23 (.take 24 (.take 25 (.take 26 (.take 27 (.take 28 (.take 29 (.one 30 (.one 31 (.take 32 (.take 33 (.take 34 (.take 35 (.take 36 (.take 37 (.take 41 (.take 42 (.take 43 (.one 38 (.take 39 (.take 40 (.take 44 (.take 45 (.take 46 .nil))))))))))))))))))))))))))))))))))))))))))))))) 9999 (by kernel_rfl) (by kernel_rfl) (by kernel_rfl) (by kernel_rfl) (by kernel_rfl) (fun _ _ d _ _ h => by cases d <;> exact h) ?_ (fun hHeld => ?_); (focus (exact (Below.refl _ _).drew)); simp only [Tree.map, List.getElem?_toArray, List.getElem?_cons_zero, List.getElem?_cons_succ]
                    (repeat (first | (refine wpTree.take (v := undef) (Or.inr ⟨by rfl, rfl⟩) ?_; simp only [Act.put, List.setIfInBounds_toArray, List.set_cons_zero, List.set_cons_succ]) | (refine wpTree.take (v := .agg (Lab.cells l).toArray) (yieldsIf_load_mid rfl 38 _ rfl _ _ rfl (Lab.cells l) _ (fun _ hS => HRG.out _ hS) Tryz.underlying38 rfl (rlinfo _)) ?_; simp only [Act.put, List.setIfInBounds_toArray, List.set_cons_zero, List.set_cons_succ]) | (refine wpTree.take (v := .agg (vl l.f).toArray) (yieldsIf_load_mid rfl 25 _ rfl _ _ rfl (vl l.f) _ (fun _ hS => HVG.out _ hS) Tryz.underlying25 rfl (vinfoL _)) ?_; simp only [Act.put, List.setIfInBounds_toArray, List.set_cons_zero, List.set_cons_succ]) | (refine wpTree.take (v := ?_) (Or.inl ⟨by rfl, ?_⟩) ?_; rotate_left; (focus (intro w9 hS; obtain ⟨q0, q1, q2, q3, q4⟩ := HF.out w9 hS; go_simp; (try (with_reducible rfl)); done)); simp only [Act.put, List.setIfInBounds_toArray, List.set_cons_zero, List.set_cons_succ])))
                    refine wpTree.one (fun K hK => ?_)
                    go_simp
                    go_at_call 76
                    refine (rdot5_any l _).mono ?_
                    rintro e z1 ⟨rfl, hb⟩
                    have hBelow := Below.trans hHeld (hb.mono (Below.size hHeld))
                    refine hK.out _ _ hBelow (fun hHeld' => ?_)
                    clear hK K hHeld hBelow hb
                    have hHeld := hHeld'
                    clear hHeld'
                    (try simp only [Act.put, List.setIfInBounds_toArray, List.set_cons_zero, List.set_cons_succ])
                    (repeat (first | (refine wpTree.take (v := undef) (Or.inr ⟨by rfl, rfl⟩) ?_; simp only [Act.put, List.setIfInBounds_toArray, List.set_cons_zero, List.set_cons_succ]) | (refine wpTree.take (v := .agg (Lab.cells l).toArray) (yieldsIf_load_mid rfl 38 _ rfl _ _ rfl (Lab.cells l) _ (fun _ hS => HRG.out _ hS) Tryz.underlying38 rfl (rlinfo _)) ?_; simp only [Act.put, List.setIfInBounds_toArray, List.set_cons_zero, List.set_cons_succ]) | (refine wpTree.take (v := .agg (vl l.f).toArray) (yieldsIf_load_mid rfl 25 _ rfl _ _ rfl (vl l.f) _ (fun _ hS => HVG.out _ hS) Tryz.underlying25 rfl (vinfoL _)) ?_; simp only [Act.put, List.setIfInBounds_toArray, List.set_cons_zero, List.set_cons_succ]) | (refine wpTree.take (v := ?_) (Or.inl ⟨by rfl, ?_⟩) ?_; rotate_left; (focus (intro w9 hS; obtain ⟨q0, q1, q2, q3, q4⟩ := HF.out w9 hS; go_simp; (try (with_reducible rfl)); done)); simp only [Act.put, List.setIfInBounds_toArray, List.set_cons_zero, List.set_cons_succ])))
                    refine wpTree.one (fun K hK => ?_)
                    go_simp
                    go_at_call 75
                    refine (RR _).mono ?_
                    rintro e z2 ⟨rfl, hb⟩
                    have hBelow := Below.trans hHeld (hb.mono (Below.size hHeld))
                    refine hK.out _ _ hBelow (fun hHeld' => ?_)
                    clear hK K hHeld hBelow hb
                    have hHeld := hHeld'
                    clear hHeld'
                    (try simp only [Act.put, List.setIfInBounds_toArray, List.set_cons_zero, List.set_cons_succ])
                    (repeat (first | (refine wpTree.take (v := undef) (Or.inr ⟨by rfl, rfl⟩) ?_; simp only [Act.put, List.setIfInBounds_toArray, List.set_cons_zero, List.set_cons_succ]) | (refine wpTree.take (v := .agg (Lab.cells l).toArray) (yieldsIf_load_mid rfl 38 _ rfl _ _ rfl (Lab.cells l) _ (fun _ hS => HRG.out _ hS) Tryz.underlying38 rfl (rlinfo _)) ?_; simp only [Act.put, List.setIfInBounds_toArray, List.set_cons_zero, List.set_cons_succ]) | (refine wpTree.take (v := .agg (vl l.f).toArray) (yieldsIf_load_mid rfl 25 _ rfl _ _ rfl (vl l.f) _ (fun _ hS => HVG.out _ hS) Tryz.underlying25 rfl (vinfoL _)) ?_; simp only [Act.put, List.setIfInBounds_toArray, List.set_cons_zero, List.set_cons_succ]) | (refine wpTree.take (v := ?_) (Or.inl ⟨by rfl, ?_⟩) ?_; rotate_left; (focus (intro w9 hS; obtain ⟨q0, q1, q2, q3, q4⟩ := HF.out w9 hS; go_simp; (try (with_reducible rfl)); done)); simp only [Act.put, List.setIfInBounds_toArray, List.set_cons_zero, List.set_cons_succ])))
                    refine wpTree.one (fun K hK => ?_)
                    go_simp
                    refine hK.out _ _ hHeld (fun _ => ?_)
                    clear hK K
                    (try simp only [Act.put, List.setIfInBounds_toArray, List.set_cons_zero, List.set_cons_succ])
                    (repeat (first | (refine wpTree.take (v := undef) (Or.inr ⟨by rfl, rfl⟩) ?_; simp only [Act.put, List.setIfInBounds_toArray, List.set_cons_zero, List.set_cons_succ]) | (refine wpTree.take (v := .agg (Lab.cells l).toArray) (yieldsIf_load_mid rfl 38 _ rfl _ _ rfl (Lab.cells l) _ (fun _ hS => HRG.out _ hS) Tryz.underlying38 rfl (rlinfo _)) ?_; simp only [Act.put, List.setIfInBounds_toArray, List.set_cons_zero, List.set_cons_succ]) | (refine wpTree.take (v := .agg (vl l.f).toArray) (yieldsIf_load_mid rfl 25 _ rfl _ _ rfl (vl l.f) _ (fun _ hS => HVG.out _ hS) Tryz.underlying25 rfl (vinfoL _)) ?_; simp only [Act.put, List.setIfInBounds_toArray, List.set_cons_zero, List.set_cons_succ]) | (refine wpTree.take (v := ?_) (Or.inl ⟨by rfl, ?_⟩) ?_; rotate_left; (focus (intro w9 hS; obtain ⟨q0, q1, q2, q3, q4⟩ := HF.out w9 hS; go_simp; (try (with_reducible rfl)); done)); simp only [Act.put, List.setIfInBounds_toArray, List.set_cons_zero, List.set_cons_succ])))
                    refine wpTree.done ?_
                    have HZ := Lib.hid (HB.out.trans (hHeld.mono HB.out.size))
                    clear hHeld
                    go_wp2_with fail
                    go_ret
                    exact ⟨by rw [HFL.out]; rfl, HZ.out⟩
                  | true =>
                    have HFL := Lib.hid (show rightL l = (((getN l.f l.nd : Nat) : Int) + 1 == (l.n : Nat)) from by rw [rightR_eq l hmax, hrb, g1, g2, g3, g4, g5, g6]; rfl)
                    have RR := rright_any l.nd l.n
                    rw [hrb] at RR
                    have aw : IntKind.u64.wrap (((getN l.f l.nd : Nat) : Int) + 1) = ((getN l.f l.nd : Nat) : Int) + 1 := by have := getN_lt l.f l.nd hf; rw [IntKind.wrap_u64]; omega
                    have ag : IntKind.u64.wrap ((getN l.f l.nd : Nat) : Int) = ((getN l.f l.nd : Nat) : Int) := by have := getN_lt l.f l.nd hf; rw [IntKind.wrap_u64]; omega
                    have an : IntKind.u64.wrap ((l.n : Nat) : Int) = ((l.n : Nat) : Int) := by rw [IntKind.wrap_u64]; omega
                    clear hrb
                    go_upto_region 6 with fail
                    refine wp_region_tree (S := (fun w => Below wr.heap.size wr w)) (.take 0 (.take 1 (.take 2 (.take 3 (.take 4 (.take 5 (.take 6 (.take 7 (.take 8 (.take 9 (.take 10 (.take 11 (.take 12 (.take 13 (.take 14 (.take 15 (.take 16 (.take 17 (.take 18 (.take 19 (.take 20 (.take 21 (.take 22 (.take 23 (.take 24 (.take 25 (.take 26 (.take 27 (.take 28 (.take 29 (.one 30 (.one 31 (.take 32 (.take 33 (.take 34 (.take 35 (.take 36 (.take 37 (.take 41 (.take 42 (.take 43 (.one 38 (.take 39 (.take 40 (.take 44 (.take 45 (.take 46 .nil))))))))))))))))))))))))))))))))))))))))))))))) 9999 (by kernel_rfl) (by kernel_rfl) (by kernel_rfl) (by kernel_rfl) (by kernel_rfl) (fun _ _ d _ _ h => by cases d <;> exact h) ?_ (fun hHeld => ?_); (focus (exact (Below.refl _ _).drew)); simp only [Tree.map, List.getElem?_toArray, List.getElem?_cons_zero, List.getElem?_cons_succ]
                    (repeat (first | (refine wpTree.take (v := undef) (Or.inr ⟨by rfl, rfl⟩) ?_; simp only [Act.put, List.setIfInBounds_toArray, List.set_cons_zero, List.set_cons_succ]) | (refine wpTree.take (v := .agg (Lab.cells l).toArray) (yieldsIf_load_mid rfl 38 _ rfl _ _ rfl (Lab.cells l) _ (fun _ hS => HRG.out _ hS) Tryz.underlying38 rfl (rlinfo _)) ?_; simp only [Act.put, List.setIfInBounds_toArray, List.set_cons_zero, List.set_cons_succ]) | (refine wpTree.take (v := .agg (vl l.f).toArray) (yieldsIf_load_mid rfl 25 _ rfl _ _ rfl (vl l.f) _ (fun _ hS => HVG.out _ hS) Tryz.underlying25 rfl (vinfoL _)) ?_; simp only [Act.put, List.setIfInBounds_toArray, List.set_cons_zero, List.set_cons_succ]) | (refine wpTree.take (v := ?_) (Or.inl ⟨by rfl, ?_⟩) ?_; rotate_left; (focus (intro w9 hS; obtain ⟨q0, q1, q2, q3, q4⟩ := HF.out w9 hS; go_simp; (try (with_reducible rfl)); done)); simp only [Act.put, List.setIfInBounds_toArray, List.set_cons_zero, List.set_cons_succ])))
                    refine wpTree.one (fun K hK => ?_)
                    go_simp
                    go_at_call 76
                    refine (rdot5_any l _).mono ?_
                    rintro e z1 ⟨rfl, hb⟩
                    have hBelow := Below.trans hHeld (hb.mono (Below.size hHeld))
                    refine hK.out _ _ hBelow (fun hHeld' => ?_)
                    clear hK K hHeld hBelow hb
                    have hHeld := hHeld'
                    clear hHeld'
                    (try simp only [Act.put, List.setIfInBounds_toArray, List.set_cons_zero, List.set_cons_succ])
                    (repeat (first | (refine wpTree.take (v := undef) (Or.inr ⟨by rfl, rfl⟩) ?_; simp only [Act.put, List.setIfInBounds_toArray, List.set_cons_zero, List.set_cons_succ]) | (refine wpTree.take (v := .agg (Lab.cells l).toArray) (yieldsIf_load_mid rfl 38 _ rfl _ _ rfl (Lab.cells l) _ (fun _ hS => HRG.out _ hS) Tryz.underlying38 rfl (rlinfo _)) ?_; simp only [Act.put, List.setIfInBounds_toArray, List.set_cons_zero, List.set_cons_succ]) | (refine wpTree.take (v := .agg (vl l.f).toArray) (yieldsIf_load_mid rfl 25 _ rfl _ _ rfl (vl l.f) _ (fun _ hS => HVG.out _ hS) Tryz.underlying25 rfl (vinfoL _)) ?_; simp only [Act.put, List.setIfInBounds_toArray, List.set_cons_zero, List.set_cons_succ]) | (refine wpTree.take (v := ?_) (Or.inl ⟨by rfl, ?_⟩) ?_; rotate_left; (focus (intro w9 hS; obtain ⟨q0, q1, q2, q3, q4⟩ := HF.out w9 hS; go_simp; (try (with_reducible rfl)); done)); simp only [Act.put, List.setIfInBounds_toArray, List.set_cons_zero, List.set_cons_succ])))
                    refine wpTree.one (fun K hK => ?_)
                    go_simp
                    go_at_call 75
                    refine (RR _).mono ?_
                    rintro e z2 ⟨rfl, hb⟩
                    have hBelow := Below.trans hHeld (hb.mono (Below.size hHeld))
                    refine hK.out _ _ hBelow (fun hHeld' => ?_)
                    clear hK K hHeld hBelow hb
                    have hHeld := hHeld'
                    clear hHeld'
                    (try simp only [Act.put, List.setIfInBounds_toArray, List.set_cons_zero, List.set_cons_succ])
                    (repeat (first | (refine wpTree.take (v := undef) (Or.inr ⟨by rfl, rfl⟩) ?_; simp only [Act.put, List.setIfInBounds_toArray, List.set_cons_zero, List.set_cons_succ]) | (refine wpTree.take (v := .agg (Lab.cells l).toArray) (yieldsIf_load_mid rfl 38 _ rfl _ _ rfl (Lab.cells l) _ (fun _ hS => HRG.out _ hS) Tryz.underlying38 rfl (rlinfo _)) ?_; simp only [Act.put, List.setIfInBounds_toArray, List.set_cons_zero, List.set_cons_succ]) | (refine wpTree.take (v := .agg (vl l.f).toArray) (yieldsIf_load_mid rfl 25 _ rfl _ _ rfl (vl l.f) _ (fun _ hS => HVG.out _ hS) Tryz.underlying25 rfl (vinfoL _)) ?_; simp only [Act.put, List.setIfInBounds_toArray, List.set_cons_zero, List.set_cons_succ]) | (refine wpTree.take (v := ?_) (Or.inl ⟨by rfl, ?_⟩) ?_; rotate_left; (focus (intro w9 hS; obtain ⟨q0, q1, q2, q3, q4⟩ := HF.out w9 hS; go_simp; (try (with_reducible rfl)); done)); simp only [Act.put, List.setIfInBounds_toArray, List.set_cons_zero, List.set_cons_succ])))
                    refine wpTree.one (fun K hK => ?_)
                    go_simp
                    go_at_call 77
                    refine (rget_any l.f l.nd _).mono ?_
                    rintro e z3 ⟨rfl, hb⟩
                    have hBelow := Below.trans hHeld (hb.mono (Below.size hHeld))
                    refine hK.out _ _ hBelow (fun hHeld' => ?_)
                    clear hK K hHeld hBelow hb
                    have hHeld := hHeld'
                    clear hHeld'
                    (try simp only [Act.put, List.setIfInBounds_toArray, List.set_cons_zero, List.set_cons_succ])
                    (repeat (first | (refine wpTree.take (v := undef) (Or.inr ⟨by rfl, rfl⟩) ?_; simp only [Act.put, List.setIfInBounds_toArray, List.set_cons_zero, List.set_cons_succ]) | (refine wpTree.take (v := .agg (Lab.cells l).toArray) (yieldsIf_load_mid rfl 38 _ rfl _ _ rfl (Lab.cells l) _ (fun _ hS => HRG.out _ hS) Tryz.underlying38 rfl (rlinfo _)) ?_; simp only [Act.put, List.setIfInBounds_toArray, List.set_cons_zero, List.set_cons_succ]) | (refine wpTree.take (v := .agg (vl l.f).toArray) (yieldsIf_load_mid rfl 25 _ rfl _ _ rfl (vl l.f) _ (fun _ hS => HVG.out _ hS) Tryz.underlying25 rfl (vinfoL _)) ?_; simp only [Act.put, List.setIfInBounds_toArray, List.set_cons_zero, List.set_cons_succ]) | (refine wpTree.take (v := ?_) (Or.inl ⟨by rfl, ?_⟩) ?_; rotate_left; (focus (intro w9 hS; obtain ⟨q0, q1, q2, q3, q4⟩ := HF.out w9 hS; go_simp; (try (with_reducible rfl)); done)); simp only [Act.put, List.setIfInBounds_toArray, List.set_cons_zero, List.set_cons_succ])))
                    refine wpTree.done ?_
                    have HZ := Lib.hid (HB.out.trans (hHeld.mono HB.out.size))
                    clear hHeld
                    go_wp2_with fail
                    go_ret
                    exact ⟨by rw [HFL.out]; rfl, HZ.out⟩
end Go.Proofs.YtkigaclcmodjaaaGreat
namespace Go.Proofs.YtkigaclcmodjaaaGreat
open Go.RowKit
set_option linter.unusedSimpArgs false
set_option linter.unusedVariables false

theorem PostP.ok {α : Type} {P : List Nat → Except Int (α × List Nat)} {bs : List Nat} {p p' : Nat} {e e' : Int} {ok : α → Prop} (h : PostP P bs p p' e e' ok) (he : e' = 0) : e = 0 ∧ ∃ x, P (bs.drop p) = .ok (x, bs.drop p') ∧ ok x := by
  have h0 : e = 0 := by
    by_cases h0 : e = 0
    · exact h0
    · exact absurd he (h.1 h0)
  have h2 := h.2 h0
  refine ⟨h0, ?_⟩
  cases hP : P (bs.drop p) with
  | error x => rw [hP] at h2; exact absurd he h2
  | ok vt =>
    obtain ⟨x, t⟩ := vt
    rw [hP] at h2
    exact ⟨x, by rw [h2.2.2], h2.1⟩
theorem PostP.no {α : Type} {P : List Nat → Except Int (α × List Nat)} {bs : List Nat} {p p' : Nat} {e e' : Int} {ok : α → Prop} (h : PostP P bs p p' e e' ok) (h0 : e = 0) (he : e' ≠ 0) : ∃ y, P (bs.drop p) = .error y := by
  have h2 := h.2 h0
  cases hP : P (bs.drop p) with
  | error x => exact ⟨x, rfl⟩
  | ok vt =>
    obtain ⟨x, t⟩ := vt
    rw [hP] at h2
    exact absurd h2.2.1 he
theorem refnum_any (k c : Nat) (A : Option Addr) (bs : List Nat) (hlen : bs.length ≤ 140737488355328) (hby : ∀ x ∈ bs, x < 256) (p : Nat) (e : Int) (W : World) (h : RS W k A c bs p e) :
    Calls Tryz.prog 42 #[.pointer (some ⟨k, 0, none⟩)] W fun r W' => ∃ (v p' : Nat) (e' : Int), r = .returned (.int .u64 (v : Nat)) ∧ RS W' k A c bs p' e' ∧ Off k W W' ∧ v < 18446744073709551616 ∧ PostP (numP true 0) bs p p' e e' (fun x => v = x) := by
  by_cases he : e = 0
  · subst he
    refine (refnum_on k c A bs hlen hby p W h).mono ?_
    rintro r w ⟨v, p', e', rfl, hS, hO, hR⟩
    cases hP : numP true 0 (bs.drop p) with
    | error x =>
      rw [hP] at hR
      exact ⟨v, p', e', rfl, hS, hO, by rw [hR.1]; decide, PostP.err hP hR.2⟩
    | ok nt =>
      obtain ⟨n, t⟩ := nt
      rw [hP] at hR
      obtain ⟨h1, rfl, h3⟩ := hR
      exact ⟨v, p', 0, rfl, hS, hO, by rw [h1]; exact numP_lt _ _ _ _ _ hP, PostP.good hP h1 h3⟩
  · refine (refnum_off k c A bs p e W h he).mono ?_
    rintro r w ⟨rfl, rfl⟩
    exact ⟨0, p, e, rfl, h, Off.refl _ _, by decide, PostP.bad he he⟩
/-- Six parts make a label, or none. -/
theorem lab_post {bs : List Nat} {p p1 p2 p3 p4 p5 p6 : Nat} {e e1 e2 e3 e4 e5 e6 : Int} {t nd n ca se : Nat} {l : List Nat}
    (P1 : PostP (numP true 0) bs p p1 e e1 (fun x => t = x)) (P2 : PostP (smallP (12 : Nat)) bs p1 p2 e1 e2 (fun x => nd = x)) (P3 : PostP (smallP (1048576 : Nat)) bs p2 p3 e2 e3 (fun x => n = x)) (P4 : PostP (smallP (12 : Nat)) bs p3 p4 e3 e4 (fun x => ca = x)) (P5 : PostP (smallP (12 : Nat)) bs p4 p5 e4 e5 (fun x => se = x)) (P6 : PostP vectorP bs p5 p6 e5 e6 (fun x => l = x)) :
    (e6 = 0 → e = 0 ∧ labP (bs.drop p) = if rightL (Lab.mk t (nd : Nat) n (ca : Nat) (se : Nat) (lv l)) then .ok (Lab.mk t (nd : Nat) n (ca : Nat) (se : Nat) (lv l), bs.drop p6) else .error 3) ∧ (e6 ≠ 0 → e = 0 → ∃ y, labP (bs.drop p) = .error y) := by
  have big : ∀ (v : Nat) (u : List Nat), numP true 0 (bs.drop p) = .ok (v, u) → ¬ v ≤ 1099511627776 → labP (bs.drop p) = .error 3 := fun v u h hv => by
    rw [labP_def]
    exact bindP_err (smallP_n (most := 1099511627776) h hv)
  constructor
  · intro h6
    obtain ⟨h5, l', r6, rfl⟩ := P6.ok h6
    obtain ⟨h4, se', r5, rfl⟩ := P5.ok h5
    obtain ⟨h3, ca', r4, rfl⟩ := P4.ok h4
    obtain ⟨h2, n', r3, rfl⟩ := P3.ok h3
    obtain ⟨h1, nd', r2, rfl⟩ := P2.ok h2
    obtain ⟨h0, t', r1, rfl⟩ := P1.ok h1
    refine ⟨h0, ?_⟩
    by_cases ht : t ≤ 1099511627776
    · rw [labP_def]
      refine (bindP_ok (smallP_y (most := 1099511627776) r1 ht)).trans ?_
      refine (bindP_ok r2).trans ?_
      refine (bindP_ok r3).trans ?_
      refine (bindP_ok r4).trans ?_
      refine (bindP_ok r5).trans ?_
      exact bindP_ok r6
    · rw [big _ _ r1 ht, if_neg]
      unfold rightL timeB
      simp only [Bool.and_eq_true, decide_eq_true_eq]
      intro h
      exact ht h.1.1.1.2
  · intro h6 h0
    by_cases h1 : e1 = 0
    · obtain ⟨_, t', r1, rfl⟩ := P1.ok h1
      by_cases ht : t ≤ 1099511627776
      · have s1 := smallP_y (most := 1099511627776) r1 ht
        rw [labP_def]
        by_cases h2 : e2 = 0
        · obtain ⟨_, x2, r2, rfl⟩ := P2.ok h2
          by_cases h3 : e3 = 0
          · obtain ⟨_, x3, r3, rfl⟩ := P3.ok h3
            by_cases h4 : e4 = 0
            · obtain ⟨_, x4, r4, rfl⟩ := P4.ok h4
              by_cases h5 : e5 = 0
              · obtain ⟨_, x5, r5, rfl⟩ := P5.ok h5
                obtain ⟨y, hy⟩ := P6.no h5 h6
                exact ⟨y, ((bindP_ok s1).trans ((bindP_ok r2).trans ((bindP_ok r3).trans ((bindP_ok r4).trans (bindP_ok r5))))).trans (bindP_err hy)⟩
              · obtain ⟨y, hy⟩ := P5.no h4 h5
                exact ⟨y, ((bindP_ok s1).trans ((bindP_ok r2).trans ((bindP_ok r3).trans (bindP_ok r4)))).trans (bindP_err hy)⟩
            · obtain ⟨y, hy⟩ := P4.no h3 h4
              exact ⟨y, ((bindP_ok s1).trans ((bindP_ok r2).trans (bindP_ok r3))).trans (bindP_err hy)⟩
          · obtain ⟨y, hy⟩ := P3.no h2 h3
            exact ⟨y, ((bindP_ok s1).trans (bindP_ok r2)).trans (bindP_err hy)⟩
        · obtain ⟨y, hy⟩ := P2.no h1 h2
          exact ⟨y, (bindP_ok s1).trans (bindP_err hy)⟩
      · exact ⟨3, big _ _ r1 ht⟩
    · obtain ⟨y, hy⟩ := P1.no h0 h1
      exact ⟨y, by rw [labP_def]; exact bindP_err (smallP_e (most := 1099511627776) hy)⟩
/-- In the middle of a read of the document's label: the reader, the box, the result's box. -/
def AtR (k g c : Nat) (A : Option Addr) (bs : List Nat) (W wx : World) (p : Nat) (e : Int) (cs : Array Value) : Prop :=
  RS wx k A c bs p e ∧ Blk wx g 38 cs ∧ Blk wx W.heap.size 38 #[.int .u64 0, .int .i64 0, .int .u32 0, .int .i64 0, .int .i64 0, .int .u32 0, .int .u32 0, .int .u32 0, .int .u32 0, .int .u32 0, .int .u32 0, .int .u32 0, .int .u32 0, .int .u32 0, .int .u32 0, .int .u32 0, .int .u32 0] ∧ Off k W wx
/-- Where what lies. -/
structure PlR (k g : Nat) (A : Option Addr) (bs : List Nat) (n : Nat) : Prop where
  (k : k < n) (g : n < g) (low : bs ≠ [] → ∀ b q, A = some ⟨b, q, none⟩ → b < n)
section
variable {k g c : Nat} {A : Option Addr} {bs : List Nat} {W wx wy : World} {p p' : Nat} {e e' : Int} {cs : Array Value}
theorem AtR.set (P : PlR k g A bs W.heap.size) (h : AtR k g c A bs W wx p e cs) (j : Nat) (u : Value) : AtR k g c A bs W (wx.setCell ⟨g, j, none⟩ u) p e (cs.setIfInBounds j u) :=
  ⟨h.1.off ((Off.refl g wx).set j u) (by have := P.k; have := P.g; omega) (fun hbs b q hA hb => by have := P.low hbs b q hA; have := P.g; omega), h.2.1.setCell j u, h.2.2.1.far (by show W.heap.size ≠ g; have := P.g; omega) u, h.2.2.2.far (by have := P.g; omega) j u⟩
theorem AtR.row (P : PlR k g A bs W.heap.size) (h : AtR k g c A bs W wx p e cs) (ds : Array Value) : AtR k g c A bs W (wx.setRow g ds) p e ds :=
  ⟨h.1.off (j := g) ⟨rfl, rfl, rfl, by simp, fun j _ hj => setRow_other wx g j ds hj⟩ (by have := P.k; have := P.g; omega) (fun hbs b q hA hb => by have := P.low hbs b q hA; have := P.g; omega), h.2.1.setRow ds, h.2.2.1.farRow (by have := P.g; omega) ds, h.2.2.2.turn (Nat.le_of_lt P.g) rfl rfl rfl (by simp) (fun j hj => setRow_other wx g j ds hj)⟩
theorem AtR.sets (P : PlR k g A bs W.heap.size) : ∀ (vs : List Value) (j : Nat) (wx : World) (cs : Array Value), AtR k g c A bs W wx p e cs → AtR k g c A bs W (wx.setCells g j vs) p e (setL cs j vs)
  | [], _, _, _, h => h
  | v :: r, j, _, _, h => AtR.sets P r (j + 1) _ _ (h.set P j v)
theorem AtR.step (P : PlR k g A bs W.heap.size) (h : AtR k g c A bs W wx p e cs) (hO : Off k wx wy) (hS : RS wy k A c bs p' e') : AtR k g c A bs W wy p' e' cs :=
  ⟨hS, hO.blk h.2.1 (by have := P.k; have := P.g; omega), hO.blk h.2.2.1 (by have := P.k; omega), h.2.2.2.trans hO⟩
theorem AtR.next (P : PlR k g A bs W.heap.size) (h : AtR k g c A bs W wx p e cs) (hb : Below wx.heap.size wx wy) : AtR k g c A bs W wy p e cs := h.step P (Off.ofBelow hb) (h.1.next hb)
end
theorem AtR.res {k g c : Nat} {A : Option Addr} {bs : List Nat} {W wx : World} {p : Nat} {e : Int} {cs : Array Value} (P : PlR k g A bs W.heap.size) (h : AtR k g c A bs W wx p e cs) (ds : Array Value) : RS (wx.setRow W.heap.size ds) k A c bs p e ∧ Off k W (wx.setRow W.heap.size ds) :=
  ⟨h.1.off (j := W.heap.size) ⟨rfl, rfl, rfl, by simp, fun j _ hj => setRow_other wx W.heap.size j ds hj⟩ (by have := P.k; omega) (fun hbs b q hA hb => by have := P.low hbs b q hA; omega), h.2.2.2.turn (Nat.le_refl _) rfl rfl rfl (by simp) (fun j hj => setRow_other wx W.heap.size j ds hj)⟩
theorem rlab_siz (l : Lab) : (#[.int .u64 0, .int .i64 0, .int .u32 0, .int .i64 0, .int .i64 0, .int .u32 0, .int .u32 0, .int .u32 0, .int .u32 0, .int .u32 0, .int .u32 0, .int .u32 0, .int .u32 0, .int .u32 0, .int .u32 0, .int .u32 0, .int .u32 0] : Array Value).size = l.cells.toArray.size := show 17 = l.cells.toArray.size by rw [List.size_toArray, lab_len]
set_option maxRecDepth 20000 in
set_option maxHeartbeats 16000000 in
theorem refget5_any (k c : Nat) (A : Option Addr) (bs : List Nat) (hlen : bs.length ≤ 140737488355328) (hby : ∀ x ∈ bs, x < 256) (p : Nat) (e : Int) (W : World) (h : RS W k A c bs p e) :
    Calls Tryz.prog 40 #[.pointer (some ⟨k, 0, none⟩)] W fun r W' => ∃ (l : Lab) (p' : Nat) (e' : Int), r = .returned (.agg l.cells.toArray) ∧ RS W' k A c bs p' e' ∧ Off k W W' ∧ ((∀ i, l.f i < 4294967296) ∧ l.n < 4294967296) ∧ PostP labP bs p p' e e' (fun x => l = x) := by
  have hk := h.1.lt
  have hlow := h.low
  have b1 := (Below.refl W.heap.size W).alloc (Nat.le_refl _) (.cells #[.int .u64 0, .int .i64 0, .int .u32 0, .int .i64 0, .int .i64 0, .int .u32 0, .int .u32 0, .int .u32 0, .int .u32 0, .int .u32 0, .int .u32 0, .int .u32 0, .int .u32 0, .int .u32 0, .int .u32 0, .int .u32 0, .int .u32 0] 38)
  have hg := Blk.new W 38 #[.int .u64 0, .int .i64 0, .int .u32 0, .int .i64 0, .int .i64 0, .int .u32 0, .int .u32 0, .int .u32 0, .int .u32 0, .int .u32 0, .int .u32 0, .int .u32 0, .int .u32 0, .int .u32 0, .int .u32 0, .int .u32 0, .int .u32 0]
  have hsz : (W.alloc (.cells #[.int .u64 0, .int .i64 0, .int .u32 0, .int .i64 0, .int .i64 0, .int .u32 0, .int .u32 0, .int .u32 0, .int .u32 0, .int .u32 0, .int .u32 0, .int .u32 0, .int .u32 0, .int .u32 0, .int .u32 0, .int .u32 0, .int .u32 0] 38)).heap.size = W.heap.size + 1 := by simp
  obtain ⟨w0, hw0⟩ : ∃ w0, w0 = W.alloc (.cells #[.int .u64 0, .int .i64 0, .int .u32 0, .int .i64 0, .int .i64 0, .int .u32 0, .int .u32 0, .int .u32 0, .int .u32 0, .int .u32 0, .int .u32 0, .int .u32 0, .int .u32 0, .int .u32 0, .int .u32 0, .int .u32 0, .int .u32 0] 38) := ⟨_, rfl⟩
  have HS0 := Lib.hid (h.next b1)
  rw [← hw0] at b1 hg hsz HS0
  have HG0 := Lib.hid hg
  have HB0 := Lib.hid b1
  have HSZ := Lib.hid hsz
  have HK := Lib.hid hk
  have HLOW := Lib.hid hlow
  go_enter Tryz.func40, Tryz.ntmps40
  go_upto_region 1 with fail
  rw [← hw0]
  clear hw0 h b1 hg hsz hk hlow
  go_wp2_with fail
  refine (refnum_any k c A bs hlen hby p e w0 HS0.out).mono ?_
  rintro r w1 ⟨t, p1, e1, rfl, hS, hO, ht, hP⟩
  have HP1 := Lib.hid hP
  have HT := Lib.hid ht
  have bb := (Below.refl w1.heap.size w1).alloc (Nat.le_refl _) (.cells #[.int .u64 0, .int .i64 0, .int .u32 0, .int .i64 0, .int .i64 0, .int .u32 0, .int .u32 0, .int .u32 0, .int .u32 0, .int .u32 0, .int .u32 0, .int .u32 0, .int .u32 0, .int .u32 0, .int .u32 0, .int .u32 0, .int .u32 0] 38)
  have hgl : W.heap.size < w1.heap.size := by have := hO.size; have := HSZ.out; omega
  have P := Lib.hid (show PlR k w1.heap.size A bs W.heap.size from ⟨HK.out, hgl, HLOW.out⟩)
  have hn0 := Blk.new w1 38 #[.int .u64 0, .int .i64 0, .int .u32 0, .int .i64 0, .int .i64 0, .int .u32 0, .int .u32 0, .int .u32 0, .int .u32 0, .int .u32 0, .int .u32 0, .int .u32 0, .int .u32 0, .int .u32 0, .int .u32 0, .int .u32 0, .int .u32 0]
  have A0 := Lib.hid (show AtR k w1.heap.size c A bs W (w1.alloc (.cells #[.int .u64 0, .int .i64 0, .int .u32 0, .int .i64 0, .int .i64 0, .int .u32 0, .int .u32 0, .int .u32 0, .int .u32 0, .int .u32 0, .int .u32 0, .int .u32 0, .int .u32 0, .int .u32 0, .int .u32 0, .int .u32 0, .int .u32 0] 38)) p1 e1 #[.int .u64 0, .int .i64 0, .int .u32 0, .int .i64 0, .int .i64 0, .int .u32 0, .int .u32 0, .int .u32 0, .int .u32 0, .int .u32 0, .int .u32 0, .int .u32 0, .int .u32 0, .int .u32 0, .int .u32 0, .int .u32 0, .int .u32 0] from ⟨hS.next bb, hn0, (hO.blk HG0.out (by have := HK.out; omega)).next bb, ((Off.ofBelow HB0.out).trans hO).trans (Off.ofBelow bb)⟩)
  clear hS hO hP ht bb hgl
  go_upto_region 2 with (first | (refine wpList_store_blk rfl 38 _ _ rfl w1.heap.size 38 #[.int .u64 0, .int .i64 0, .int .u32 0, .int .i64 0, .int .i64 0, .int .u32 0, .int .u32 0, .int .u32 0, .int .u32 0, .int .u32 0, .int .u32 0, .int .u32 0, .int .u32 0, .int .u32 0, .int .u32 0, .int .u32 0, .int .u32 0] (zc (.int .u64 (t : Nat)) (.int .i64 0) (.int .u32 0) (.int .i64 0) (.int .i64 0)) rfl rfl hn0 (by unfold zc; kernel_rfl) rfl (by unfold zc; simp [Value.oneCell']) ?_; intro hrow))
  have A1 := Lib.hid (A0.out.row P.out (zc (.int .u64 (t : Nat)) (.int .i64 0) (.int .u32 0) (.int .i64 0) (.int .i64 0)))
  obtain ⟨x1, hx1⟩ : ∃ x1, x1 = (w1.alloc (.cells #[.int .u64 0, .int .i64 0, .int .u32 0, .int .i64 0, .int .i64 0, .int .u32 0, .int .u32 0, .int .u32 0, .int .u32 0, .int .u32 0, .int .u32 0, .int .u32 0, .int .u32 0, .int .u32 0, .int .u32 0, .int .u32 0, .int .u32 0] 38)).setRow w1.heap.size (zc (.int .u64 (t : Nat)) (.int .i64 0) (.int .u32 0) (.int .i64 0) (.int .i64 0)) := ⟨_, rfl⟩
  rw [← hx1] at A1 hrow ⊢
  clear hx1 hrow hn0 A0
  obtain ⟨g, hgg⟩ : ∃ g, g = w1.heap.size := ⟨_, rfl⟩
  rw [← hgg] at A1 P ⊢
  clear hgg
  go_wp2_with fail
  refine (refsmall_any k c A bs hlen hby 12 (by decide) p1 e1 x1 A1.out.1).mono ?_
  rintro r w2 ⟨nd, p2, e2, rfl, hS, hO, hle, hP⟩
  have HP2 := Lib.hid hP
  have HM2 := Lib.hid hle
  have B2 := Lib.hid (A1.out.step P.out hO hS)
  clear hS hO hP hle
  have k0 := B2.out.2.1.cell 1
  have z0 := B2.out.2.1.frozen 1
  have A2 := Lib.hid (show AtR k g c A bs W _ p2 e2 (zc (.int .u64 (t : Nat)) (.int .i64 (nd : Nat)) (.int .u32 0) (.int .i64 0) (.int .i64 0)) from B2.out.set P.out 1 (.int .i64 (nd : Nat)))
  go_upto_region 3 with fail
  obtain ⟨x2, hx⟩ : ∃ x2, x2 = w2.setCell ⟨g, 1, none⟩ (.int .i64 (nd : Nat)) := ⟨_, rfl⟩
  rw [← hx] at A2 ⊢
  clear hx k0 z0 B2 A1
  go_wp2_with fail
  refine (refsmall_any k c A bs hlen hby 1048576 (by decide) p2 e2 x2 A2.out.1).mono ?_
  rintro r w3 ⟨n, p3, e3, rfl, hS, hO, hle, hP⟩
  have HP3 := Lib.hid hP
  have HM3 := Lib.hid hle
  have B3 := Lib.hid (A2.out.step P.out hO hS)
  clear hS hO hP hle
  have k0 := B3.out.2.1.cell 2
  have z0 := B3.out.2.1.frozen 2
  have ew : IntKind.u32.wrap ((n : Nat) : Int) = (n : Nat) := by have := HM3.out; rw [IntKind.wrap_u32]; omega
  have A3 := Lib.hid (show AtR k g c A bs W _ p3 e3 (zc (.int .u64 (t : Nat)) (.int .i64 (nd : Nat)) (.int .u32 (n : Nat)) (.int .i64 0) (.int .i64 0)) from B3.out.set P.out 2 (.int .u32 (n : Nat)))
  go_upto_region 4 with fail
  obtain ⟨x3, hx⟩ : ∃ x3, x3 = w3.setCell ⟨g, 2, none⟩ (.int .u32 (n : Nat)) := ⟨_, rfl⟩
  rw [← hx] at A3 ⊢
  clear hx k0 z0 B3 A2 ew
  go_wp2_with fail
  refine (refsmall_any k c A bs hlen hby 12 (by decide) p3 e3 x3 A3.out.1).mono ?_
  rintro r w4 ⟨ca, p4, e4, rfl, hS, hO, hle, hP⟩
  have HP4 := Lib.hid hP
  have HM4 := Lib.hid hle
  have B4 := Lib.hid (A3.out.step P.out hO hS)
  clear hS hO hP hle
  have k0 := B4.out.2.1.cell 3
  have z0 := B4.out.2.1.frozen 3
  have A4 := Lib.hid (show AtR k g c A bs W _ p4 e4 (zc (.int .u64 (t : Nat)) (.int .i64 (nd : Nat)) (.int .u32 (n : Nat)) (.int .i64 (ca : Nat)) (.int .i64 0)) from B4.out.set P.out 3 (.int .i64 (ca : Nat)))
  go_upto_region 5 with fail
  obtain ⟨x4, hx⟩ : ∃ x4, x4 = w4.setCell ⟨g, 3, none⟩ (.int .i64 (ca : Nat)) := ⟨_, rfl⟩
  rw [← hx] at A4 ⊢
  clear hx k0 z0 B4 A3
  go_wp2_with fail
  refine (refsmall_any k c A bs hlen hby 12 (by decide) p4 e4 x4 A4.out.1).mono ?_
  rintro r w5 ⟨se, p5, e5, rfl, hS, hO, hle, hP⟩
  have HP5 := Lib.hid hP
  have HM5 := Lib.hid hle
  have B5 := Lib.hid (A4.out.step P.out hO hS)
  clear hS hO hP hle
  have k0 := B5.out.2.1.cell 4
  have z0 := B5.out.2.1.frozen 4
  have A5 := Lib.hid (show AtR k g c A bs W _ p5 e5 (zc (.int .u64 (t : Nat)) (.int .i64 (nd : Nat)) (.int .u32 (n : Nat)) (.int .i64 (ca : Nat)) (.int .i64 (se : Nat))) from B5.out.set P.out 4 (.int .i64 (se : Nat)))
  go_upto_region 6 with fail
  obtain ⟨x5, hx⟩ : ∃ x5, x5 = w5.setCell ⟨g, 4, none⟩ (.int .i64 (se : Nat)) := ⟨_, rfl⟩
  rw [← hx] at A5 ⊢
  clear hx k0 z0 B5 A4
  go_wp2_with fail
  refine (refvector_any k c A bs hlen hby p5 e5 x5 A5.out.1).mono ?_
  rintro r w6 ⟨l6, p6, e6, rfl, hS, hO, hlv, hP⟩
  have HP6 := Lib.hid hP
  have B6 := Lib.hid (A5.out.step P.out hO hS)
  clear hS hO hP
  have ht := B6.out.2.1.there (o := 5) (n := (vl (lv l6)).toArray.size) (by rw [vl_size]; exact Nat.le_refl 17)
  have A6 := Lib.hid (AtR.sets P.out (vl (lv l6)) 5 _ _ B6.out)
  rw [zc_vec] at A6
  obtain ⟨l, hl⟩ : ∃ l, l = Lab.mk t (nd : Nat) n (ca : Nat) (se : Nat) (lv l6) := ⟨_, rfl⟩
  have HPOST := Lib.hid (lab_post HP1.out HP2.out HP3.out HP4.out HP5.out HP6.out)
  rw [← hl] at A6 HPOST
  have HLN := Lib.hid (show (∀ i, l.f i < 4294967296) ∧ l.n < 4294967296 from by rw [hl]; exact ⟨hlv, by have := HM3.out; show n < _; omega⟩)
  clear hl hlv
  go_upto_region 7 with (first | (refine wpList_store_mid rfl 25 _ _ rfl g 5 (vl (lv l6)).toArray rfl rfl ht (vinfo _) (vl_all _) ?_))
  obtain ⟨x6, hx⟩ : ∃ x6, x6 = w6.setCells g 5 (vl (lv l6)) := ⟨_, rfl⟩
  rw [← hx] at A6 ⊢
  clear hx ht B6 A5
  obtain ⟨_, _, c2, cz⟩ := A6.out.1.cells
  have z2 := cz 2
  have rgl := A6.out.2.1.range
  clear cz
  by_cases he6 : e6 = 0
  · subst he6
    go_wp2_with (first | (refine wpList_load_midg (by rfl) 38 _ rfl _ _ rfl (Lab.cells l) _ rgl Tryz.underlying38 rfl (rlinfo _) ?_))
    refine (rright5_any l HLN.out.1 HLN.out.2 x6).mono ?_
    rintro r x7 ⟨rfl, hb⟩
    have A7 := Lib.hid (A6.out.next P.out hb)
    clear hb c2 z2 rgl A6
    cases hr : rightL l with
    | true =>
      have HL := Lib.hid (show e = 0 ∧ labP (bs.drop p) = .ok (l, bs.drop p6) from by have := HPOST.out.1 (by trivial); rwa [hr, if_pos rfl] at this)
      have rgl := A7.out.2.1.range
      have bg := A7.out.2.2.1
      clear hr
      go_wp2_with (first | (refine wpList_load_midg (by rfl) 38 _ rfl _ _ rfl (Lab.cells l) _ rgl Tryz.underlying38 rfl (rlinfo _) ?_) | (refine wpList_store_blk rfl 38 _ _ rfl W.heap.size 38 _ l.cells.toArray rfl rfl bg (rlinfoA _) (rlab_siz l) (lab_one l) ?_; intro hrow))
      refine bodyPost_row (t := 38) l.cells.toArray rfl rfl rfl Tryz.underlying38 rfl (rlinfoA _) hrow ?_
      exact ⟨l, p6, 0, rfl, (A7.out.res P.out _).1, (A7.out.res P.out _).2, HLN.out, by rw [HL.out.1]; exact PostP.good HL.out.2 rfl rfl⟩
    | false =>
      have HL := Lib.hid (show e = 0 ∧ labP (bs.drop p) = .error 3 from by have := HPOST.out.1 (by trivial); rw [hr] at this; exact this)
      obtain ⟨_, _, c2, cz⟩ := A7.out.1.cells
      have z2 := cz 2
      have A8 := Lib.hid (show AtR k g c A bs W (x7.setCell ⟨k, 2, none⟩ (.int .i64 3)) p6 3 l.cells.toArray from A7.out.step P.out ((Off.refl k x7).set 2 _) (A7.out.1.setE 3))
      have rgl := A8.out.2.1.range
      have bg := A8.out.2.2.1
      clear hr cz
      go_wp2_with (first | (refine wpList_load_midg (by rfl) 38 _ rfl _ _ rfl (Lab.cells l) _ rgl Tryz.underlying38 rfl (rlinfo _) ?_) | (refine wpList_store_blk rfl 38 _ _ rfl W.heap.size 38 _ l.cells.toArray rfl rfl bg (rlinfoA _) (rlab_siz l) (lab_one l) ?_; intro hrow))
      refine bodyPost_row (t := 38) l.cells.toArray rfl rfl rfl Tryz.underlying38 rfl (rlinfoA _) hrow ?_
      exact ⟨l, p6, 3, rfl, (A8.out.res P.out _).1, (A8.out.res P.out _).2, HLN.out, by rw [HL.out.1]; exact PostP.err HL.out.2 (by decide)⟩
  · have f1 : (e6 == 0) = false := by simpa using he6
    have HE6 := Lib.hid he6
    have bg := A6.out.2.2.1
    clear he6
    go_wp2_with (first | (refine wpList_load_midg (by rfl) 38 _ rfl _ _ rfl (Lab.cells l) _ rgl Tryz.underlying38 rfl (rlinfo _) ?_) | (refine wpList_store_blk rfl 38 _ _ rfl W.heap.size 38 _ l.cells.toArray rfl rfl bg (rlinfoA _) (rlab_siz l) (lab_one l) ?_; intro hrow))
    refine bodyPost_row (t := 38) l.cells.toArray rfl rfl rfl Tryz.underlying38 rfl (rlinfoA _) hrow ?_
    refine ⟨l, p6, e6, rfl, (A6.out.res P.out _).1, (A6.out.res P.out _).2, HLN.out, fun _ => HE6.out, fun h0 => ?_⟩
    obtain ⟨y, hy⟩ := HPOST.out.2 HE6.out h0
    rw [hy]
    exact HE6.out
end Go.Proofs.YtkigaclcmodjaaaGreat
namespace Go.Proofs.YtkigaclcmodjaaaGreat
open Go.RowKit
set_option linter.unusedSimpArgs false
set_option linter.unusedVariables false
/-- A row of bytes that is ours, made after x. -/
def Own8 (B : Nat) (x w : World) (v : Value) (ds : List Nat) : Prop := w.ownsRow B 5 1 v ds.length (u8s ds) ∧ Below B x w
theorem Own8.first {x w : World} {v : Value} {ds : List Nat} (h : Made x w v ds) : Own8 x.heap.size x w v ds := h
theorem Own8.more {B : Nat} {x w w2 w3 : World} {v v2 v3 : Value} {ds es : List Nat} {n : Nat} (hB : B = x.heap.size) (h : Own8 B x w v ds) (h2 : Made w w2 v2 es) (hn : n = es.length) (hown : w3.ownsRow B 5 1 v3 (ds.length + n) (u8s ds ++ u8s es)) (hg : w2.grownBy w3 v.ownBlock) : Own8 B x w3 v3 (ds ++ es) := by
  subst hn hB
  refine ⟨by rw [List.length_append, u8s_app]; exact hown, (h.2.trans (h2.2.mono h.2.size)).trans (grown_below (own_next h.1 h2.2 h.2.size) hg (Nat.le_trans h.2.size h2.2.size))⟩
set_option maxRecDepth 20000 in
set_option maxHeartbeats 8000000 in
theorem rwrite5_any (t nd n ca se : Nat) (f : Nat → Nat) (W : World) (ht : t < 18446744073709551616) (hd : nd < 4294967296) (hn : n < 4294967296) (hc : ca < 4294967296) (hs : se < 4294967296)
    (hf : ∀ i, f i < 4294967296) :
    Calls Tryz.prog 55 #[.agg (Lab.mk t (nd : Nat) n (ca : Nat) (se : Nat) f).cells.toArray] W fun e W' => ∃ v, e = .returned v ∧ Made W W' v (encL (Lab.mk t (nd : Nat) n (ca : Nat) (se : Nat) f)) := by
  obtain ⟨l, hl⟩ : ∃ l, l = Lab.mk t (nd : Nat) n (ca : Nat) (se : Nat) f := ⟨_, rfl⟩
  have hE := Lib.hid (show encL l = enc t ++ enc nd ++ enc n ++ enc ca ++ enc se ++ encV f by subst hl; rfl)
  have hb0 := (Below.refl W.heap.size W).alloc (Nat.le_refl _) (.cells l.cells.toArray 38)
  have hbk := Blk.new W 38 l.cells.toArray
  have hsz : (W.alloc (.cells l.cells.toArray 38)).heap.size = W.heap.size + 1 := by simp
  have HLE := Lib.hid (show (enc t).length ≤ 10 ∧ (enc nd).length ≤ 10 ∧ (enc n).length ≤ 10 ∧ (enc ca).length ≤ 10 ∧ (enc se).length ≤ 10 ∧ (encV f).length ≤ 130 from ⟨enc_len t ht, enc_len nd (by omega), enc_len n (by omega), enc_len ca (by omega), enc_len se (by omega), encV_len f hf⟩)
  have w1 : IntKind.u64.wrap ((nd : Nat) : Int) = (nd : Nat) := by rw [IntKind.wrap_u64]; omega
  have w2 : IntKind.u64.wrap ((n : Nat) : Int) = (n : Nat) := by rw [IntKind.wrap_u64]; omega
  have w3 : IntKind.u64.wrap ((ca : Nat) : Int) = (ca : Nat) := by rw [IntKind.wrap_u64]; omega
  have w4 : IntKind.u64.wrap ((se : Nat) : Int) = (se : Nat) := by rw [IntKind.wrap_u64]; omega
  rw [← hl]
  have HT := Lib.hid ht
  have HD := Lib.hid (show nd < 18446744073709551616 by omega)
  have HN := Lib.hid (show n < 18446744073709551616 by omega)
  have HC := Lib.hid (show ca < 18446744073709551616 by omega)
  have HS := Lib.hid (show se < 18446744073709551616 by omega)
  have HF := Lib.hid hf
  have HL := Lib.hid hl
  clear hl
  go_enter Tryz.func55, Tryz.ntmps55
  go_upto_region 1 with fail
  obtain ⟨x1, hx1⟩ : ∃ x1, x1 = W.alloc (.cells l.cells.toArray 38) := ⟨_, rfl⟩
  rw [← hx1] at hb0 hbk hsz ⊢
  have HB := Lib.hid hb0
  have HZ := Lib.hid hsz
  have HQ := Lib.hid (show ∀ w', Below x1.heap.size x1 w' → w'.cell? ⟨W.heap.size, 0, none⟩ = some (.int .u64 (t : Nat)) ∧ w'.cell? ⟨W.heap.size, 1, none⟩ = some (.int .i64 (nd : Nat)) ∧ w'.cell? ⟨W.heap.size, 2, none⟩ = some (.int .u32 (n : Nat)) ∧ w'.cell? ⟨W.heap.size, 3, none⟩ = some (.int .i64 (ca : Nat)) ∧ w'.cell? ⟨W.heap.size, 4, none⟩ = some (.int .i64 (se : Nat)) ∧ w'.rangeAt W.heap.size 5 (vl f) from fun w' hb => by
    have hc : ∀ i, w'.cell? ⟨W.heap.size, i, none⟩ = l.cells[i]? := fun i => by rw [(hbk.next hb).cell, List.getElem?_toArray]
    have hl := HL.out
    subst hl
    refine ⟨(hc 0).trans lab_0, (hc 1).trans lab_1, (hc 2).trans lab_2, (hc 3).trans lab_3, (hc 4).trans lab_4, fun j v hv => ?_⟩
    rw [hc, lab_5, hv])
  clear hx1 hb0 hbk hsz HL ht hd hn hc hs hf
  obtain ⟨q0, q1, q2, q3, q4, q5⟩ := HQ.out x1 (Below.refl _ _)
  go_upto_region 2 with (first | (go_at_call 57; refine (rfnum_any t _ HT.out).mono ?_; rintro e y1 ⟨v1, rfl, hM⟩; have HO1 := Lib.hid (Own8.first hM); clear hM q0 q1 q2 q3 q4 q5))
  obtain ⟨q0, q1, q2, q3, q4, q5⟩ := HQ.out y1 HO1.out.2
  go_upto_region 3 with (first | (go_at_call 57; refine (rfnum_any nd _ HD.out).mono ?_; rintro e z2 ⟨u2, rfl, hM⟩; obtain ⟨A2, c2, rfl, hS2⟩ := src_own hM.1; have HM2 := Lib.hid hM; have HS2 := Lib.hid hS2; clear hM hS2 q0 q1 q2 q3 q4 q5) | (refine wpList_append_u8 _ rfl _ _ rfl x1.heap.size v1 (enc t).length (u8s (enc t)) rfl (own_next HO1.out.1 HM2.out.2 HO1.out.2.size) A2 (enc nd).length c2 (u8s (enc nd)) rfl (u8s_len _) HS2.out (u8s_one _) (by (try simp only [List.length_append]); obtain ⟨_, _, _, _, _, _⟩ := HLE.out; omega) (Nat.le_trans HO1.out.2.size HM2.out.2.size) ?_; intro v2 y2 hown hgrow _; have HO2 := Lib.hid (Own8.more rfl HO1.out HM2.out rfl hown hgrow); clear hown hgrow HO1 HM2 HS2))
  obtain ⟨q0, q1, q2, q3, q4, q5⟩ := HQ.out y2 HO2.out.2
  go_upto_region 4 with (first | (go_at_call 57; refine (rfnum_any n _ HN.out).mono ?_; rintro e z3 ⟨u3, rfl, hM⟩; obtain ⟨A3, c3, rfl, hS3⟩ := src_own hM.1; have HM3 := Lib.hid hM; have HS3 := Lib.hid hS3; clear hM hS3 q0 q1 q2 q3 q4 q5) | (refine wpList_append_u8 _ rfl _ _ rfl x1.heap.size v2 (enc t ++ enc nd).length (u8s (enc t ++ enc nd)) rfl (own_next HO2.out.1 HM3.out.2 HO2.out.2.size) A3 (enc n).length c3 (u8s (enc n)) rfl (u8s_len _) HS3.out (u8s_one _) (by (try simp only [List.length_append]); obtain ⟨_, _, _, _, _, _⟩ := HLE.out; omega) (Nat.le_trans HO2.out.2.size HM3.out.2.size) ?_; intro v3 y3 hown hgrow _; have HO3 := Lib.hid (Own8.more rfl HO2.out HM3.out rfl hown hgrow); clear hown hgrow HO2 HM3 HS3))
  obtain ⟨q0, q1, q2, q3, q4, q5⟩ := HQ.out y3 HO3.out.2
  go_upto_region 5 with (first | (go_at_call 57; refine (rfnum_any ca _ HC.out).mono ?_; rintro e z4 ⟨u4, rfl, hM⟩; obtain ⟨A4, c4, rfl, hS4⟩ := src_own hM.1; have HM4 := Lib.hid hM; have HS4 := Lib.hid hS4; clear hM hS4 q0 q1 q2 q3 q4 q5) | (refine wpList_append_u8 _ rfl _ _ rfl x1.heap.size v3 (enc t ++ enc nd ++ enc n).length (u8s (enc t ++ enc nd ++ enc n)) rfl (own_next HO3.out.1 HM4.out.2 HO3.out.2.size) A4 (enc ca).length c4 (u8s (enc ca)) rfl (u8s_len _) HS4.out (u8s_one _) (by (try simp only [List.length_append]); obtain ⟨_, _, _, _, _, _⟩ := HLE.out; omega) (Nat.le_trans HO3.out.2.size HM4.out.2.size) ?_; intro v4 y4 hown hgrow _; have HO4 := Lib.hid (Own8.more rfl HO3.out HM4.out rfl hown hgrow); clear hown hgrow HO3 HM4 HS4))
  obtain ⟨q0, q1, q2, q3, q4, q5⟩ := HQ.out y4 HO4.out.2
  go_upto_region 6 with (first | (go_at_call 57; refine (rfnum_any se _ HS.out).mono ?_; rintro e z5 ⟨u5, rfl, hM⟩; obtain ⟨A5, c5, rfl, hS5⟩ := src_own hM.1; have HM5 := Lib.hid hM; have HS5 := Lib.hid hS5; clear hM hS5 q0 q1 q2 q3 q4 q5) | (refine wpList_append_u8 _ rfl _ _ rfl x1.heap.size v4 (enc t ++ enc nd ++ enc n ++ enc ca).length (u8s (enc t ++ enc nd ++ enc n ++ enc ca)) rfl (own_next HO4.out.1 HM5.out.2 HO4.out.2.size) A5 (enc se).length c5 (u8s (enc se)) rfl (u8s_len _) HS5.out (u8s_one _) (by (try simp only [List.length_append]); obtain ⟨_, _, _, _, _, _⟩ := HLE.out; omega) (Nat.le_trans HO4.out.2.size HM5.out.2.size) ?_; intro v5 y5 hown hgrow _; have HO5 := Lib.hid (Own8.more rfl HO4.out HM5.out rfl hown hgrow); clear hown hgrow HO4 HM5 HS5))
  obtain ⟨q0, q1, q2, q3, q4, q5⟩ := HQ.out y5 HO5.out.2
  go_wp2_with (first | (refine wpList_load_mid rfl 25 _ rfl _ _ rfl (vl f) _ q5 Tryz.underlying25 rfl (vinfoL _) ?_) | (go_at_call 58; refine (rfvector_any f HF.out _).mono ?_; rintro e z6 ⟨u6, rfl, hM⟩; obtain ⟨A6, c6, rfl, hS6⟩ := src_own hM.1; have HM6 := Lib.hid hM; have HS6 := Lib.hid hS6; clear hM hS6 q0 q1 q2 q3 q4 q5) | (refine wpList_append_u8 _ rfl _ _ rfl x1.heap.size v5 (enc t ++ enc nd ++ enc n ++ enc ca ++ enc se).length (u8s (enc t ++ enc nd ++ enc n ++ enc ca ++ enc se)) rfl (own_next HO5.out.1 HM6.out.2 HO5.out.2.size) A6 (encV f).length c6 (u8s (encV f)) rfl (u8s_len _) HS6.out (u8s_one _) (by (try simp only [List.length_append]); obtain ⟨_, _, _, _, _, _⟩ := HLE.out; omega) (Nat.le_trans HO5.out.2.size HM6.out.2.size) ?_; intro v6 y6 hown hgrow _; have HO6 := Lib.hid (Own8.more rfl HO5.out HM6.out rfl hown hgrow); clear hown hgrow HO5 HM6 HS6))
  all_goals
    go_ret
    refine ⟨v6, rfl, ?_, HB.out.trans (HO6.out.2.mono HB.out.size)⟩
    rw [hE.out]
    exact own_le HO6.out.1 HB.out.size
end Go.Proofs.YtkigaclcmodjaaaGreat

/-
LabelOrder holds: of two labels that are not equal in Time, Node, Cart and N just one is Less; of three the order goes on; what depends on an event whose past it covers depends on that past. No condition.
-/
import Derived.Test.YtpimhohballafaaLOpen
import Derived.Deep.CutRange
namespace Go.Proofs.Ytpimhohballafaa
open Go.ChangeShapes Go.WideShapes Go.ChangeAt Go.RowKit

/-- Three boxes. -/
def Three (W0 W : World) (a b c : Lab) : Prop := Blk W W0.heap.size 27 a.cells.toArray ∧ Blk W (W0.heap.size + 1) 27 b.cells.toArray ∧ Blk W (W0.heap.size + 2) 27 c.cells.toArray ∧ Below W0.heap.size W0 W
theorem Three.next {W0 W W' : World} {a b c : Lab} (h : Three W0 W a b c) (hb : Below W.heap.size W W') : Three W0 W' a b c := ⟨h.1.next hb, h.2.1.next hb, h.2.2.1.next hb, h.2.2.2.trans (hb.mono h.2.2.2.size)⟩

set_option maxRecDepth 20000 in
set_option maxHeartbeats 16000000 in
theorem labelorder_walk (a b c : Lab) (W : World) :
    Calls Try.prog 4 #[.agg a.cells.toArray, .agg b.cells.toArray, .agg c.cells.toArray] W fun e W' => e = .returned (.bool true) ∧ Below W.heap.size W W' := by
  have bA := ((Blk.new W 27 a.cells.toArray).alloc (.cells b.cells.toArray 27)).alloc (.cells c.cells.toArray 27)
  have hsz : (W.alloc (.cells a.cells.toArray 27)).heap.size = W.heap.size + 1 := by simp
  have hsz2 : ((W.alloc (.cells a.cells.toArray 27)).alloc (.cells b.cells.toArray 27)).heap.size = W.heap.size + 2 := by simp
  have bB := (Blk.new (W.alloc (.cells a.cells.toArray 27)) 27 b.cells.toArray).alloc (.cells c.cells.toArray 27)
  rw [hsz] at bB
  have bC := Blk.new ((W.alloc (.cells a.cells.toArray 27)).alloc (.cells b.cells.toArray 27)) 27 c.cells.toArray
  rw [hsz2] at bC
  have hB0 := ((((Below.refl W.heap.size W).alloc (Nat.le_refl _) (.cells a.cells.toArray 27)).alloc (by rw [hsz]; omega) (.cells b.cells.toArray 27))).alloc (by rw [hsz2]; omega) (.cells c.cells.toArray 27)
  have H3 := Lib.hid (show Three W _ a b c from ⟨bA, bB, bC, hB0⟩)
  clear bA bB bC hB0 hsz hsz2
  go_enter Try.func4, Try.ntmps4
  go_upto_region 1 with fail
  obtain ⟨W1, hW1⟩ : ∃ W1, W1 = ((W.alloc (.cells a.cells.toArray 27)).alloc (.cells b.cells.toArray 27)).alloc (.cells c.cells.toArray 27) := ⟨_, rfl⟩
  rw [← hW1] at H3 ⊢
  clear hW1
  go_cut [7] from 11 to 36 (fun x wx => x = .bool (sameB a b) ∧ wx = W1)
  case first =>
    obtain ⟨_, _, a0, a1, a2, a3, _⟩ := lab_all H3.out.1
    obtain ⟨_, _, b0, b1, b2, b3, _⟩ := lab_all H3.out.2.1
    by_cases h0 : a.t = b.t
    · have q0 : ((a.t : Int) == (b.t : Int)) = true := by simp [h0]
      by_cases h1 : a.nd = b.nd
      · have q1 : (a.nd == b.nd) = true := by simp [h1]
        by_cases h2 : a.ca = b.ca
        · have q2 : (a.ca == b.ca) = true := by simp [h2]
          have q3 : ((a.n : Int) == (b.n : Int)) = decide (a.n = b.n) := by rw [Bool.eq_iff_iff]; simp; omega
          have HS := Lib.hid (show sameB a b = decide (a.n = b.n) by simp [sameB, h0, h1, h2])
          clear h0 h1 h2
          go_wp2_with fail
          go_meet
          exact ⟨by rw [HS.out], rfl⟩
        · have q2 : (a.ca == b.ca) = false := by simpa using h2
          have HS := Lib.hid (show sameB a b = false by simp [sameB, h0, h1, h2])
          clear h0 h1 h2
          go_wp2_with fail
          go_meet
          exact ⟨by rw [HS.out], rfl⟩
      · have q1 : (a.nd == b.nd) = false := by simpa using h1
        have HS := Lib.hid (show sameB a b = false by simp [sameB, h0, h1])
        clear h0 h1
        go_wp2_with fail
        go_meet
        exact ⟨by rw [HS.out], rfl⟩
    · have q0 : ((a.t : Int) == (b.t : Int)) = false := by simp; omega
      have HS := Lib.hid (show sameB a b = false by simp [sameB, h0])
      clear h0
      go_wp2_with fail
      go_meet
      exact ⟨by rw [HS.out], rfl⟩
  case rest =>
    obtain ⟨rfl, hw⟩ := hcut
    rw [hw]
    clear hw
    have rA := H3.out.1.range
    have rB := H3.out.2.1.range
    go_upto_region 2 with fail
    refine wp_region_tree (S := (fun W' => Below (W1).heap.size W1 W')) (.take 0 (.take 1 (.take 3 (.take 4 (.one 2 (.one 5 (.take 6 (.take 7 .nil)))))))) 9999 (by kernel_rfl) (by kernel_rfl) (by kernel_rfl) (by kernel_rfl) (by kernel_rfl) (fun _ _ d _ _ h => by cases d <;> exact h) ?_ (fun hHeld => ?_); (focus (exact (Below.refl _ _).drew)); simp only [Tree.map, List.getElem?_toArray, List.getElem?_cons_zero, List.getElem?_cons_succ]
    (repeat (first | (refine wpTree.take (v := undef) (Or.inr ⟨by rfl, rfl⟩) ?_; simp only [Act.put, List.setIfInBounds_toArray, List.set_cons_zero, List.set_cons_succ]) | (refine wpTree.take (v := .agg (vl ?_).toArray) (yieldsIf_load_mid rfl 25 _ rfl _ _ rfl (vl _) _ ?_ Try.underlying25 rfl (vinfoL _)) ?_; rotate_left; (focus (intro _ hS; refine range_next hS ?_; assumption)); simp only [Act.put, List.setIfInBounds_toArray, List.set_cons_zero, List.set_cons_succ]) | (refine wpTree.take (v := .agg (Lab.cells ?_).toArray) (yieldsIf_load_mid rfl 27 _ rfl _ _ rfl (Lab.cells _) _ ?_ Try.underlying27 rfl (linfo _)) ?_; rotate_left; (focus (intro _ hS; refine range_next hS ?_; assumption)); simp only [Act.put, List.setIfInBounds_toArray, List.set_cons_zero, List.set_cons_succ]) | (refine wpTree.take (v := ?_) (Or.inl ⟨by rfl, ?_⟩) ?_; rotate_left; (focus (intro _ hS; (try dsimp only at hS); go_split_ands; (try subst hS); go_simp; (try (with_reducible rfl)); done)); simp only [Act.put, List.setIfInBounds_toArray, List.set_cons_zero, List.set_cons_succ])))
    refine wpTree.one (fun K hK => ?_)
    go_simp
    go_at_call 12
    refine (less_any a b _).mono ?_
    rintro e W2 ⟨rfl, hbW2⟩
    have hBelow := Below.trans hHeld (hbW2.mono (Below.size hHeld))
    refine hK.out _ _ hBelow (fun hHeld' => ?_)
    clear hK K hHeld hbW2 hBelow
    have hHeld := hHeld'
    clear hHeld'
    (repeat (first | (refine wpTree.take (v := undef) (Or.inr ⟨by rfl, rfl⟩) ?_; simp only [Act.put, List.setIfInBounds_toArray, List.set_cons_zero, List.set_cons_succ]) | (refine wpTree.take (v := .agg (vl ?_).toArray) (yieldsIf_load_mid rfl 25 _ rfl _ _ rfl (vl _) _ ?_ Try.underlying25 rfl (vinfoL _)) ?_; rotate_left; (focus (intro _ hS; refine range_next hS ?_; assumption)); simp only [Act.put, List.setIfInBounds_toArray, List.set_cons_zero, List.set_cons_succ]) | (refine wpTree.take (v := .agg (Lab.cells ?_).toArray) (yieldsIf_load_mid rfl 27 _ rfl _ _ rfl (Lab.cells _) _ ?_ Try.underlying27 rfl (linfo _)) ?_; rotate_left; (focus (intro _ hS; refine range_next hS ?_; assumption)); simp only [Act.put, List.setIfInBounds_toArray, List.set_cons_zero, List.set_cons_succ]) | (refine wpTree.take (v := ?_) (Or.inl ⟨by rfl, ?_⟩) ?_; rotate_left; (focus (intro _ hS; (try dsimp only at hS); go_split_ands; (try subst hS); go_simp; (try (with_reducible rfl)); done)); simp only [Act.put, List.setIfInBounds_toArray, List.set_cons_zero, List.set_cons_succ])))
    refine wpTree.one (fun K hK => ?_)
    go_simp
    go_at_call 12
    refine (less_any b a _).mono ?_
    rintro e W3 ⟨rfl, hbW3⟩
    have hBelow := Below.trans hHeld (hbW3.mono (Below.size hHeld))
    refine hK.out _ _ hBelow (fun hHeld' => ?_)
    clear hK K hHeld hbW3 hBelow
    have hHeld := hHeld'
    clear hHeld'
    (repeat (first | (refine wpTree.take (v := undef) (Or.inr ⟨by rfl, rfl⟩) ?_; simp only [Act.put, List.setIfInBounds_toArray, List.set_cons_zero, List.set_cons_succ]) | (refine wpTree.take (v := .agg (vl ?_).toArray) (yieldsIf_load_mid rfl 25 _ rfl _ _ rfl (vl _) _ ?_ Try.underlying25 rfl (vinfoL _)) ?_; rotate_left; (focus (intro _ hS; refine range_next hS ?_; assumption)); simp only [Act.put, List.setIfInBounds_toArray, List.set_cons_zero, List.set_cons_succ]) | (refine wpTree.take (v := .agg (Lab.cells ?_).toArray) (yieldsIf_load_mid rfl 27 _ rfl _ _ rfl (Lab.cells _) _ ?_ Try.underlying27 rfl (linfo _)) ?_; rotate_left; (focus (intro _ hS; refine range_next hS ?_; assumption)); simp only [Act.put, List.setIfInBounds_toArray, List.set_cons_zero, List.set_cons_succ]) | (refine wpTree.take (v := ?_) (Or.inl ⟨by rfl, ?_⟩) ?_; rotate_left; (focus (intro _ hS; (try dsimp only at hS); go_split_ands; (try subst hS); go_simp; (try (with_reducible rfl)); done)); simp only [Act.put, List.setIfInBounds_toArray, List.set_cons_zero, List.set_cons_succ])))
    refine wpTree.done ?_
    have H4 := Lib.hid (H3.out.next hHeld)
    clear hHeld rA rB H3
    go_upto_region 3 with fail
    go_cut [7, 8, 9, 70] from 37 to 69 (fun _ _ _ x wx => x = .bool false ∧ Three W wx a b c)
    case first =>
      rcases less_cases a b with ⟨e1, e2, e3⟩ | ⟨e1, e2, e3⟩ | ⟨e1, e2, e3⟩
      · have HT := Lib.hid (fun h => less_trans (c := c) e1 h)
        have HA := Lib.hid (less_any a b)
        rw [e1] at HA
        rw [e1, e2, e3]
        clear e1 e2 e3
        have rA := H4.out.1.range
        have rB := H4.out.2.1.range
        go_wp2_with (first | (refine wpList_load_midg (by rfl) 27 _ rfl _ _ rfl (Lab.cells ?_) _ ?_ Try.underlying27 rfl (linfo _) ?_; rotate_left; (focus assumption)) | (refine wpList_load_mid rfl 27 _ rfl _ _ rfl (Lab.cells ?_) _ ?_ Try.underlying27 rfl (linfo _) ?_; rotate_left; (focus assumption)))
        refine (HA.out _).mono ?_
        rintro e W5 ⟨rfl, hb⟩
        have H5 := Lib.hid (H4.out.next hb)
        clear hb H4 rA rB HA
        have HB := Lib.hid (less_any b c)
        have rB := H5.out.2.1.range
        have rC := H5.out.2.2.1.range
        cases hbc : lessB b c with
        | false =>
          rw [hbc] at HB
          clear hbc HT
          go_wp2_with (first | (refine wpList_load_midg (by rfl) 27 _ rfl _ _ rfl (Lab.cells ?_) _ ?_ Try.underlying27 rfl (linfo _) ?_; rotate_left; (focus assumption)) | (refine wpList_load_mid rfl 27 _ rfl _ _ rfl (Lab.cells ?_) _ ?_ Try.underlying27 rfl (linfo _) ?_; rotate_left; (focus assumption)))
          refine (HB.out _).mono ?_
          rintro e W6 ⟨rfl, hb⟩
          have H6 := Lib.hid (H5.out.next hb)
          clear hb H5 rB rC HB
          go_wp2_with fail
          go_meet
          exact ⟨rfl, H6.out⟩
        | true =>
          have HC := Lib.hid (less_any a c)
          rw [HT.out hbc] at HC
          rw [hbc] at HB
          clear hbc HT
          go_wp2_with (first | (refine wpList_load_midg (by rfl) 27 _ rfl _ _ rfl (Lab.cells ?_) _ ?_ Try.underlying27 rfl (linfo _) ?_; rotate_left; (focus assumption)) | (refine wpList_load_mid rfl 27 _ rfl _ _ rfl (Lab.cells ?_) _ ?_ Try.underlying27 rfl (linfo _) ?_; rotate_left; (focus assumption)))
          refine (HB.out _).mono ?_
          rintro e W6 ⟨rfl, hb⟩
          have H6 := Lib.hid (H5.out.next hb)
          clear hb H5 rB rC HB
          have rA := H6.out.1.range
          have rC := H6.out.2.2.1.range
          go_wp2_with (first | (refine wpList_load_midg (by rfl) 27 _ rfl _ _ rfl (Lab.cells ?_) _ ?_ Try.underlying27 rfl (linfo _) ?_; rotate_left; (focus assumption)) | (refine wpList_load_mid rfl 27 _ rfl _ _ rfl (Lab.cells ?_) _ ?_ Try.underlying27 rfl (linfo _) ?_; rotate_left; (focus assumption)))
          refine (HC.out _).mono ?_
          rintro e W7 ⟨rfl, hb⟩
          have H7 := Lib.hid (H6.out.next hb)
          clear hb H6 rA rC HC
          go_wp2_with fail
          go_meet
          exact ⟨rfl, H7.out⟩
      · skip
        have HA := Lib.hid (less_any a b)
        rw [e1] at HA
        rw [e1, e2, e3]
        clear e1 e2 e3
        have rA := H4.out.1.range
        have rB := H4.out.2.1.range
        go_wp2_with (first | (refine wpList_load_midg (by rfl) 27 _ rfl _ _ rfl (Lab.cells ?_) _ ?_ Try.underlying27 rfl (linfo _) ?_; rotate_left; (focus assumption)) | (refine wpList_load_mid rfl 27 _ rfl _ _ rfl (Lab.cells ?_) _ ?_ Try.underlying27 rfl (linfo _) ?_; rotate_left; (focus assumption)))
        refine (HA.out _).mono ?_
        rintro e W5 ⟨rfl, hb⟩
        have H5 := Lib.hid (H4.out.next hb)
        clear hb H4 rA rB HA
        go_wp2_with fail
        go_meet
        exact ⟨rfl, H5.out⟩
      · skip
        have HA := Lib.hid (less_any a b)
        rw [e1] at HA
        rw [e1, e2, e3]
        clear e1 e2 e3
        have rA := H4.out.1.range
        have rB := H4.out.2.1.range
        go_wp2_with (first | (refine wpList_load_midg (by rfl) 27 _ rfl _ _ rfl (Lab.cells ?_) _ ?_ Try.underlying27 rfl (linfo _) ?_; rotate_left; (focus assumption)) | (refine wpList_load_mid rfl 27 _ rfl _ _ rfl (Lab.cells ?_) _ ?_ Try.underlying27 rfl (linfo _) ?_; rotate_left; (focus assumption)))
        refine (HA.out _).mono ?_
        rintro e W5 ⟨rfl, hb⟩
        have H5 := Lib.hid (H4.out.next hb)
        clear hb H4 rA rB HA
        go_wp2_with fail
        go_meet
        exact ⟨rfl, H5.out⟩
    case rest =>
      obtain ⟨rfl, h4⟩ := hcut
      have H5 := Lib.hid h4
      have rA := h4.1.range
      have HRA := Lib.hid (lright_any a)
      have HRB := Lib.hid (lright_any b)
      have HRC := Lib.hid (lright_any c)
      clear h4 H4
      cases hra : rightL a with
      | false =>
        rw [hra] at HRA
        go_wp2_with (first | (refine wpList_load_mid rfl 27 _ rfl _ _ rfl (Lab.cells ?_) _ ?_ Try.underlying27 rfl (linfo _) ?_; rotate_left; (focus assumption)))
        refine (HRA.out _).mono ?_
        rintro e W6 ⟨rfl, hb⟩
        have H6 := Lib.hid (H5.out.next hb)
        clear hb rA
        go_wp2_with fail
        refine (alive5_any _).mono ?_
        rintro e wx ⟨rfl, hb⟩
        have HF := Lib.hid ((H6).out.next hb)
        clear hb
        go_wp2_with fail
        go_ret
        exact ⟨rfl, HF.out.2.2.2⟩
      | true =>
      rw [hra] at HRA
      go_wp2_with (first | (refine wpList_load_mid rfl 27 _ rfl _ _ rfl (Lab.cells ?_) _ ?_ Try.underlying27 rfl (linfo _) ?_; rotate_left; (focus assumption)))
      refine (HRA.out _).mono ?_
      rintro e W6 ⟨rfl, hb⟩
      have H6 := Lib.hid (H5.out.next hb)
      clear hb rA H5 HRA
      have rB := H6.out.2.1.range
      cases hrb : rightL b with
      | false =>
        rw [hrb] at HRB
        go_wp2_with (first | (refine wpList_load_midg (by rfl) 27 _ rfl _ _ rfl (Lab.cells ?_) _ ?_ Try.underlying27 rfl (linfo _) ?_; rotate_left; (focus assumption)) | (refine wpList_load_mid rfl 27 _ rfl _ _ rfl (Lab.cells ?_) _ ?_ Try.underlying27 rfl (linfo _) ?_; rotate_left; (focus assumption)))
        refine (HRB.out _).mono ?_
        rintro e W7 ⟨rfl, hb⟩
        have H7 := Lib.hid (H6.out.next hb)
        clear hb rB
        go_wp2_with fail
        refine (alive5_any _).mono ?_
        rintro e wx ⟨rfl, hb⟩
        have HF := Lib.hid ((H7).out.next hb)
        clear hb
        go_wp2_with fail
        go_ret
        exact ⟨rfl, HF.out.2.2.2⟩
      | true =>
      rw [hrb] at HRB
      go_wp2_with (first | (refine wpList_load_midg (by rfl) 27 _ rfl _ _ rfl (Lab.cells ?_) _ ?_ Try.underlying27 rfl (linfo _) ?_; rotate_left; (focus assumption)) | (refine wpList_load_mid rfl 27 _ rfl _ _ rfl (Lab.cells ?_) _ ?_ Try.underlying27 rfl (linfo _) ?_; rotate_left; (focus assumption)))
      refine (HRB.out _).mono ?_
      rintro e W7 ⟨rfl, hb⟩
      have H7 := Lib.hid (H6.out.next hb)
      clear hb rB H6 HRB
      have rC := H7.out.2.2.1.range
      cases hrc : rightL c with
      | false =>
        rw [hrc] at HRC
        go_wp2_with (first | (refine wpList_load_midg (by rfl) 27 _ rfl _ _ rfl (Lab.cells ?_) _ ?_ Try.underlying27 rfl (linfo _) ?_; rotate_left; (focus assumption)) | (refine wpList_load_mid rfl 27 _ rfl _ _ rfl (Lab.cells ?_) _ ?_ Try.underlying27 rfl (linfo _) ?_; rotate_left; (focus assumption)))
        refine (HRC.out _).mono ?_
        rintro e W8 ⟨rfl, hb⟩
        have H8 := Lib.hid (H7.out.next hb)
        clear hb rC
        go_wp2_with fail
        refine (alive5_any _).mono ?_
        rintro e wx ⟨rfl, hb⟩
        have HF := Lib.hid ((H8).out.next hb)
        clear hb
        go_wp2_with fail
        go_ret
        exact ⟨rfl, HF.out.2.2.2⟩
      | true =>
      rw [hrc] at HRC
      go_wp2_with (first | (refine wpList_load_midg (by rfl) 27 _ rfl _ _ rfl (Lab.cells ?_) _ ?_ Try.underlying27 rfl (linfo _) ?_; rotate_left; (focus assumption)) | (refine wpList_load_mid rfl 27 _ rfl _ _ rfl (Lab.cells ?_) _ ?_ Try.underlying27 rfl (linfo _) ?_; rotate_left; (focus assumption)))
      refine (HRC.out _).mono ?_
      rintro e W8 ⟨rfl, hb⟩
      have H8 := Lib.hid (H7.out.next hb)
      clear hb rC H7 HRC
      have HSF := Lib.hid (before_any a a)
      rw [bef_self hra] at HSF
      have hpc := past_covers hra
      have hph := past_has hra
      have HP := Lib.hid (past_any a)
      have HPB := Lib.hid (past_any b)
      have HT := Lib.hid (fun h1 h2 h3 => closed_trans (c := c) hra hrb h1 h2 h3)
      clear hra hrb hrc
      obtain ⟨p, hp⟩ : ∃ p, p = pastF a := ⟨_, rfl⟩
      obtain ⟨q, hq⟩ : ∃ q, q = pastF b := ⟨_, rfl⟩
      rw [← hp] at HP hpc hph
      rw [← hq] at HPB HT
      clear hp hq
      have HPC := Lib.hid (covers_any p a.f)
      rw [hpc] at HPC
      have HPH := Lib.hid (has_any p a.nd a.n)
      rw [hph] at HPH
      have HDT := Lib.hid (dot_any a)
      clear hpc hph
      go_upto_region 7 with fail
      go_cut [10] from 85 to 95 (fun x wx => x = .bool (covB c.f q || !befB b c) ∧ Three W wx a b c)
      case first =>
        have vC := (lab_all H8.out.2.2.1).2.1
        have rB := H8.out.2.1.range
        have rC := H8.out.2.2.1.range
        have HCV := Lib.hid (covers_any c.f q)
        cases hcv : covB c.f q with
        | true =>
          rw [hcv] at HCV
          have HCQ := Lib.hid hcv
          clear hcv
          refine wp_region_tree (S := (fun W' => Below (W8).heap.size W8 W')) (.take 0 (.take 1 (.take 2 (.one 3 (.one 4 (.take 5 (.take 6 (.take 7 (.one 8 (.take 9 (.take 10 (.take 11 .nil)))))))))))) 9999 (by kernel_rfl) (by kernel_rfl) (by kernel_rfl) (by kernel_rfl) (by kernel_rfl) (fun _ _ d _ _ h => by cases d <;> exact h) ?_ (fun hHeld => ?_); (focus (exact (Below.refl _ _).drew)); simp only [Tree.map, List.getElem?_toArray, List.getElem?_cons_zero, List.getElem?_cons_succ]
          (repeat (first | (refine wpTree.take (v := undef) (Or.inr ⟨by rfl, rfl⟩) ?_; simp only [Act.put, List.setIfInBounds_toArray, List.set_cons_zero, List.set_cons_succ]) | (refine wpTree.take (v := .agg (vl ?_).toArray) (yieldsIf_load_mid rfl 25 _ rfl _ _ rfl (vl _) _ ?_ Try.underlying25 rfl (vinfoL _)) ?_; rotate_left; (focus (intro _ hS; refine range_next hS ?_; assumption)); simp only [Act.put, List.setIfInBounds_toArray, List.set_cons_zero, List.set_cons_succ]) | (refine wpTree.take (v := .agg (Lab.cells ?_).toArray) (yieldsIf_load_mid rfl 27 _ rfl _ _ rfl (Lab.cells _) _ ?_ Try.underlying27 rfl (linfo _)) ?_; rotate_left; (focus (intro _ hS; refine range_next hS ?_; assumption)); simp only [Act.put, List.setIfInBounds_toArray, List.set_cons_zero, List.set_cons_succ]) | (refine wpTree.take (v := ?_) (Or.inl ⟨by rfl, ?_⟩) ?_; rotate_left; (focus (intro _ hS; (try dsimp only at hS); go_split_ands; (try subst hS); go_simp; (try (with_reducible rfl)); done)); simp only [Act.put, List.setIfInBounds_toArray, List.set_cons_zero, List.set_cons_succ])))
          refine wpTree.one (fun K hK => ?_)
          go_simp
          go_at_call 15
          refine (HPB.out _).mono ?_
          rintro e W9 ⟨rfl, hbW9⟩
          have hBelow := Below.trans hHeld (hbW9.mono (Below.size hHeld))
          refine hK.out _ _ hBelow (fun hHeld' => ?_)
          clear hK K hHeld hbW9 hBelow
          have hHeld := hHeld'
          clear hHeld'
          (repeat (first | (refine wpTree.take (v := undef) (Or.inr ⟨by rfl, rfl⟩) ?_; simp only [Act.put, List.setIfInBounds_toArray, List.set_cons_zero, List.set_cons_succ]) | (refine wpTree.take (v := .agg (vl ?_).toArray) (yieldsIf_load_mid rfl 25 _ rfl _ _ rfl (vl _) _ ?_ Try.underlying25 rfl (vinfoL _)) ?_; rotate_left; (focus (intro _ hS; refine range_next hS ?_; assumption)); simp only [Act.put, List.setIfInBounds_toArray, List.set_cons_zero, List.set_cons_succ]) | (refine wpTree.take (v := .agg (Lab.cells ?_).toArray) (yieldsIf_load_mid rfl 27 _ rfl _ _ rfl (Lab.cells _) _ ?_ Try.underlying27 rfl (linfo _)) ?_; rotate_left; (focus (intro _ hS; refine range_next hS ?_; assumption)); simp only [Act.put, List.setIfInBounds_toArray, List.set_cons_zero, List.set_cons_succ]) | (refine wpTree.take (v := ?_) (Or.inl ⟨by rfl, ?_⟩) ?_; rotate_left; (focus (intro _ hS; (try dsimp only at hS); go_split_ands; (try subst hS); go_simp; (try (with_reducible rfl)); done)); simp only [Act.put, List.setIfInBounds_toArray, List.set_cons_zero, List.set_cons_succ])))
          refine wpTree.one (fun K hK => ?_)
          go_simp
          go_at_call 14
          refine (HCV.out _).mono ?_
          rintro e W10 ⟨rfl, hbW10⟩
          have hBelow := Below.trans hHeld (hbW10.mono (Below.size hHeld))
          refine hK.out _ _ hBelow (fun hHeld' => ?_)
          clear hK K hHeld hbW10 hBelow
          have hHeld := hHeld'
          clear hHeld'
          (repeat (first | (refine wpTree.take (v := undef) (Or.inr ⟨by rfl, rfl⟩) ?_; simp only [Act.put, List.setIfInBounds_toArray, List.set_cons_zero, List.set_cons_succ]) | (refine wpTree.take (v := .agg (vl ?_).toArray) (yieldsIf_load_mid rfl 25 _ rfl _ _ rfl (vl _) _ ?_ Try.underlying25 rfl (vinfoL _)) ?_; rotate_left; (focus (intro _ hS; refine range_next hS ?_; assumption)); simp only [Act.put, List.setIfInBounds_toArray, List.set_cons_zero, List.set_cons_succ]) | (refine wpTree.take (v := .agg (Lab.cells ?_).toArray) (yieldsIf_load_mid rfl 27 _ rfl _ _ rfl (Lab.cells _) _ ?_ Try.underlying27 rfl (linfo _)) ?_; rotate_left; (focus (intro _ hS; refine range_next hS ?_; assumption)); simp only [Act.put, List.setIfInBounds_toArray, List.set_cons_zero, List.set_cons_succ]) | (refine wpTree.take (v := ?_) (Or.inl ⟨by rfl, ?_⟩) ?_; rotate_left; (focus (intro _ hS; (try dsimp only at hS); go_split_ands; (try subst hS); go_simp; (try (with_reducible rfl)); done)); simp only [Act.put, List.setIfInBounds_toArray, List.set_cons_zero, List.set_cons_succ])))
          refine wpTree.one (fun K hK => ?_)
          go_simp
          refine hK.out _ _ hHeld (fun _ => ?_)
          clear hK K
          (repeat (first | (refine wpTree.take (v := undef) (Or.inr ⟨by rfl, rfl⟩) ?_; simp only [Act.put, List.setIfInBounds_toArray, List.set_cons_zero, List.set_cons_succ]) | (refine wpTree.take (v := .agg (vl ?_).toArray) (yieldsIf_load_mid rfl 25 _ rfl _ _ rfl (vl _) _ ?_ Try.underlying25 rfl (vinfoL _)) ?_; rotate_left; (focus (intro _ hS; refine range_next hS ?_; assumption)); simp only [Act.put, List.setIfInBounds_toArray, List.set_cons_zero, List.set_cons_succ]) | (refine wpTree.take (v := .agg (Lab.cells ?_).toArray) (yieldsIf_load_mid rfl 27 _ rfl _ _ rfl (Lab.cells _) _ ?_ Try.underlying27 rfl (linfo _)) ?_; rotate_left; (focus (intro _ hS; refine range_next hS ?_; assumption)); simp only [Act.put, List.setIfInBounds_toArray, List.set_cons_zero, List.set_cons_succ]) | (refine wpTree.take (v := ?_) (Or.inl ⟨by rfl, ?_⟩) ?_; rotate_left; (focus (intro _ hS; (try dsimp only at hS); go_split_ands; (try subst hS); go_simp; (try (with_reducible rfl)); done)); simp only [Act.put, List.setIfInBounds_toArray, List.set_cons_zero, List.set_cons_succ])))
          refine wpTree.done ?_
          have H9 := Lib.hid (H8.out.next hHeld)
          clear hHeld vC rB rC
          go_wp2_with fail
          go_meet
          exact ⟨by rw [HCQ.out]; rfl, H9.out⟩
        | false =>
          rw [hcv] at HCV
          have HCQ := Lib.hid hcv
          clear hcv
          refine wp_region_tree (S := (fun W' => Below (W8).heap.size W8 W')) (.take 0 (.take 1 (.take 2 (.one 3 (.one 4 (.take 5 (.take 6 (.take 7 (.one 8 (.take 9 (.take 10 (.take 11 .nil)))))))))))) 9999 (by kernel_rfl) (by kernel_rfl) (by kernel_rfl) (by kernel_rfl) (by kernel_rfl) (fun _ _ d _ _ h => by cases d <;> exact h) ?_ (fun hHeld => ?_); (focus (exact (Below.refl _ _).drew)); simp only [Tree.map, List.getElem?_toArray, List.getElem?_cons_zero, List.getElem?_cons_succ]
          (repeat (first | (refine wpTree.take (v := undef) (Or.inr ⟨by rfl, rfl⟩) ?_; simp only [Act.put, List.setIfInBounds_toArray, List.set_cons_zero, List.set_cons_succ]) | (refine wpTree.take (v := .agg (vl ?_).toArray) (yieldsIf_load_mid rfl 25 _ rfl _ _ rfl (vl _) _ ?_ Try.underlying25 rfl (vinfoL _)) ?_; rotate_left; (focus (intro _ hS; refine range_next hS ?_; assumption)); simp only [Act.put, List.setIfInBounds_toArray, List.set_cons_zero, List.set_cons_succ]) | (refine wpTree.take (v := .agg (Lab.cells ?_).toArray) (yieldsIf_load_mid rfl 27 _ rfl _ _ rfl (Lab.cells _) _ ?_ Try.underlying27 rfl (linfo _)) ?_; rotate_left; (focus (intro _ hS; refine range_next hS ?_; assumption)); simp only [Act.put, List.setIfInBounds_toArray, List.set_cons_zero, List.set_cons_succ]) | (refine wpTree.take (v := ?_) (Or.inl ⟨by rfl, ?_⟩) ?_; rotate_left; (focus (intro _ hS; (try dsimp only at hS); go_split_ands; (try subst hS); go_simp; (try (with_reducible rfl)); done)); simp only [Act.put, List.setIfInBounds_toArray, List.set_cons_zero, List.set_cons_succ])))
          refine wpTree.one (fun K hK => ?_)
          go_simp
          go_at_call 15
          refine (HPB.out _).mono ?_
          rintro e W9 ⟨rfl, hbW9⟩
          have hBelow := Below.trans hHeld (hbW9.mono (Below.size hHeld))
          refine hK.out _ _ hBelow (fun hHeld' => ?_)
          clear hK K hHeld hbW9 hBelow
          have hHeld := hHeld'
          clear hHeld'
          (repeat (first | (refine wpTree.take (v := undef) (Or.inr ⟨by rfl, rfl⟩) ?_; simp only [Act.put, List.setIfInBounds_toArray, List.set_cons_zero, List.set_cons_succ]) | (refine wpTree.take (v := .agg (vl ?_).toArray) (yieldsIf_load_mid rfl 25 _ rfl _ _ rfl (vl _) _ ?_ Try.underlying25 rfl (vinfoL _)) ?_; rotate_left; (focus (intro _ hS; refine range_next hS ?_; assumption)); simp only [Act.put, List.setIfInBounds_toArray, List.set_cons_zero, List.set_cons_succ]) | (refine wpTree.take (v := .agg (Lab.cells ?_).toArray) (yieldsIf_load_mid rfl 27 _ rfl _ _ rfl (Lab.cells _) _ ?_ Try.underlying27 rfl (linfo _)) ?_; rotate_left; (focus (intro _ hS; refine range_next hS ?_; assumption)); simp only [Act.put, List.setIfInBounds_toArray, List.set_cons_zero, List.set_cons_succ]) | (refine wpTree.take (v := ?_) (Or.inl ⟨by rfl, ?_⟩) ?_; rotate_left; (focus (intro _ hS; (try dsimp only at hS); go_split_ands; (try subst hS); go_simp; (try (with_reducible rfl)); done)); simp only [Act.put, List.setIfInBounds_toArray, List.set_cons_zero, List.set_cons_succ])))
          refine wpTree.one (fun K hK => ?_)
          go_simp
          go_at_call 14
          refine (HCV.out _).mono ?_
          rintro e W10 ⟨rfl, hbW10⟩
          have hBelow := Below.trans hHeld (hbW10.mono (Below.size hHeld))
          refine hK.out _ _ hBelow (fun hHeld' => ?_)
          clear hK K hHeld hbW10 hBelow
          have hHeld := hHeld'
          clear hHeld'
          (repeat (first | (refine wpTree.take (v := undef) (Or.inr ⟨by rfl, rfl⟩) ?_; simp only [Act.put, List.setIfInBounds_toArray, List.set_cons_zero, List.set_cons_succ]) | (refine wpTree.take (v := .agg (vl ?_).toArray) (yieldsIf_load_mid rfl 25 _ rfl _ _ rfl (vl _) _ ?_ Try.underlying25 rfl (vinfoL _)) ?_; rotate_left; (focus (intro _ hS; refine range_next hS ?_; assumption)); simp only [Act.put, List.setIfInBounds_toArray, List.set_cons_zero, List.set_cons_succ]) | (refine wpTree.take (v := .agg (Lab.cells ?_).toArray) (yieldsIf_load_mid rfl 27 _ rfl _ _ rfl (Lab.cells _) _ ?_ Try.underlying27 rfl (linfo _)) ?_; rotate_left; (focus (intro _ hS; refine range_next hS ?_; assumption)); simp only [Act.put, List.setIfInBounds_toArray, List.set_cons_zero, List.set_cons_succ]) | (refine wpTree.take (v := ?_) (Or.inl ⟨by rfl, ?_⟩) ?_; rotate_left; (focus (intro _ hS; (try dsimp only at hS); go_split_ands; (try subst hS); go_simp; (try (with_reducible rfl)); done)); simp only [Act.put, List.setIfInBounds_toArray, List.set_cons_zero, List.set_cons_succ])))
          refine wpTree.one (fun K hK => ?_)
          go_simp
          go_at_call 16
          refine (before_any b c _).mono ?_
          rintro e W11 ⟨rfl, hbW11⟩
          have hBelow := Below.trans hHeld (hbW11.mono (Below.size hHeld))
          refine hK.out _ _ hBelow (fun hHeld' => ?_)
          clear hK K hHeld hbW11 hBelow
          have hHeld := hHeld'
          clear hHeld'
          (repeat (first | (refine wpTree.take (v := undef) (Or.inr ⟨by rfl, rfl⟩) ?_; simp only [Act.put, List.setIfInBounds_toArray, List.set_cons_zero, List.set_cons_succ]) | (refine wpTree.take (v := .agg (vl ?_).toArray) (yieldsIf_load_mid rfl 25 _ rfl _ _ rfl (vl _) _ ?_ Try.underlying25 rfl (vinfoL _)) ?_; rotate_left; (focus (intro _ hS; refine range_next hS ?_; assumption)); simp only [Act.put, List.setIfInBounds_toArray, List.set_cons_zero, List.set_cons_succ]) | (refine wpTree.take (v := .agg (Lab.cells ?_).toArray) (yieldsIf_load_mid rfl 27 _ rfl _ _ rfl (Lab.cells _) _ ?_ Try.underlying27 rfl (linfo _)) ?_; rotate_left; (focus (intro _ hS; refine range_next hS ?_; assumption)); simp only [Act.put, List.setIfInBounds_toArray, List.set_cons_zero, List.set_cons_succ]) | (refine wpTree.take (v := ?_) (Or.inl ⟨by rfl, ?_⟩) ?_; rotate_left; (focus (intro _ hS; (try dsimp only at hS); go_split_ands; (try subst hS); go_simp; (try (with_reducible rfl)); done)); simp only [Act.put, List.setIfInBounds_toArray, List.set_cons_zero, List.set_cons_succ])))
          refine wpTree.done ?_
          have H9 := Lib.hid (H8.out.next hHeld)
          clear hHeld vC rB rC
          go_wp2_with fail
          go_meet
          exact ⟨by rw [HCQ.out]; rfl, H9.out⟩
      case rest =>
        obtain ⟨rfl, h5⟩ := hcut
        have H6 := Lib.hid h5
        clear h5 H8
        obtain ⟨x, hx⟩ : ∃ x, x = (covB c.f q || !befB b c) := ⟨_, rfl⟩
        rw [← hx]
        have rA := H6.out.1.range
        have vA := (lab_all H6.out.1).2.1
        have rB := H6.out.2.1.range
        have rC := H6.out.2.2.1.range
        go_upto_region 8 with fail
        have hAB := before_any a b
        have hBC := before_any b c
        have hAC := before_any a c
        cases x with
        | false =>
          clear hx hAB hBC hAC HT
          refine wp_region_tree (S := (fun W' => Below (wc).heap.size wc W')) (.one 0 (.take 1 (.take 2 (.take 3 (.take 4 (.take 5 (.take 6 (.one 7 (.take 8 (.take 9 (.take 10 (.take 11 (.take 12 (.one 13 (.take 14 (.take 15 (.take 16 (.take 17 (.take 18 (.one 19 (.take 20 (.take 21 (.take 22 (.take 23 (.take 25 (.take 26 (.one 24 (.one 27 (.take 28 (.take 29 (.take 30 (.take 32 (.one 31 (.one 33 (.one 34 (.take 35 (.take 36 (.take 37 (.take 38 (.one 39 (.take 40 (.take 41 (.take 42 .nil))))))))))))))))))))))))))))))))))))))))))) 9999 (by kernel_rfl) (by kernel_rfl) (by kernel_rfl) (by kernel_rfl) (by kernel_rfl) (fun _ _ d _ _ h => by cases d <;> exact h) ?_ (fun hHeld => ?_); (focus (exact (Below.refl _ _).drew)); simp only [Tree.map, List.getElem?_toArray, List.getElem?_cons_zero, List.getElem?_cons_succ]
          refine wpTree.one (fun K hK => ?_)
          go_simp
          go_at_call 9
          refine (alive5_any _).mono ?_
          rintro e V1 ⟨rfl, hbV1⟩
          have hBelow := Below.trans hHeld (hbV1.mono (Below.size hHeld))
          refine hK.out _ _ hBelow (fun hHeld' => ?_)
          clear hK K hHeld hbV1 hBelow
          have hHeld := hHeld'
          clear hHeld'
          (repeat (first | (refine wpTree.take (v := undef) (Or.inr ⟨by rfl, rfl⟩) ?_; simp only [Act.put, List.setIfInBounds_toArray, List.set_cons_zero, List.set_cons_succ]) | (refine wpTree.take (v := .agg (vl ?_).toArray) (yieldsIf_load_mid rfl 25 _ rfl _ _ rfl (vl _) _ ?_ Try.underlying25 rfl (vinfoL _)) ?_; rotate_left; (focus (intro _ hS; refine range_next hS ?_; assumption)); simp only [Act.put, List.setIfInBounds_toArray, List.set_cons_zero, List.set_cons_succ]) | (refine wpTree.take (v := .agg (Lab.cells ?_).toArray) (yieldsIf_load_mid rfl 27 _ rfl _ _ rfl (Lab.cells _) _ ?_ Try.underlying27 rfl (linfo _)) ?_; rotate_left; (focus (intro _ hS; refine range_next hS ?_; assumption)); simp only [Act.put, List.setIfInBounds_toArray, List.set_cons_zero, List.set_cons_succ]) | (refine wpTree.take (v := ?_) (Or.inl ⟨by rfl, ?_⟩) ?_; rotate_left; (focus (intro _ hS; (try dsimp only at hS); go_split_ands; (try subst hS); go_simp; (try (with_reducible rfl)); done)); simp only [Act.put, List.setIfInBounds_toArray, List.set_cons_zero, List.set_cons_succ])))
          refine wpTree.one (fun K hK => ?_)
          go_simp
          refine hK.out _ _ hHeld (fun _ => ?_)
          clear hK K
          (repeat (first | (refine wpTree.take (v := undef) (Or.inr ⟨by rfl, rfl⟩) ?_; simp only [Act.put, List.setIfInBounds_toArray, List.set_cons_zero, List.set_cons_succ]) | (refine wpTree.take (v := .agg (vl ?_).toArray) (yieldsIf_load_mid rfl 25 _ rfl _ _ rfl (vl _) _ ?_ Try.underlying25 rfl (vinfoL _)) ?_; rotate_left; (focus (intro _ hS; refine range_next hS ?_; assumption)); simp only [Act.put, List.setIfInBounds_toArray, List.set_cons_zero, List.set_cons_succ]) | (refine wpTree.take (v := .agg (Lab.cells ?_).toArray) (yieldsIf_load_mid rfl 27 _ rfl _ _ rfl (Lab.cells _) _ ?_ Try.underlying27 rfl (linfo _)) ?_; rotate_left; (focus (intro _ hS; refine range_next hS ?_; assumption)); simp only [Act.put, List.setIfInBounds_toArray, List.set_cons_zero, List.set_cons_succ]) | (refine wpTree.take (v := ?_) (Or.inl ⟨by rfl, ?_⟩) ?_; rotate_left; (focus (intro _ hS; (try dsimp only at hS); go_split_ands; (try subst hS); go_simp; (try (with_reducible rfl)); done)); simp only [Act.put, List.setIfInBounds_toArray, List.set_cons_zero, List.set_cons_succ])))
          refine wpTree.one (fun K hK => ?_)
          go_simp
          refine hK.out _ _ hHeld (fun _ => ?_)
          clear hK K
          (repeat (first | (refine wpTree.take (v := undef) (Or.inr ⟨by rfl, rfl⟩) ?_; simp only [Act.put, List.setIfInBounds_toArray, List.set_cons_zero, List.set_cons_succ]) | (refine wpTree.take (v := .agg (vl ?_).toArray) (yieldsIf_load_mid rfl 25 _ rfl _ _ rfl (vl _) _ ?_ Try.underlying25 rfl (vinfoL _)) ?_; rotate_left; (focus (intro _ hS; refine range_next hS ?_; assumption)); simp only [Act.put, List.setIfInBounds_toArray, List.set_cons_zero, List.set_cons_succ]) | (refine wpTree.take (v := .agg (Lab.cells ?_).toArray) (yieldsIf_load_mid rfl 27 _ rfl _ _ rfl (Lab.cells _) _ ?_ Try.underlying27 rfl (linfo _)) ?_; rotate_left; (focus (intro _ hS; refine range_next hS ?_; assumption)); simp only [Act.put, List.setIfInBounds_toArray, List.set_cons_zero, List.set_cons_succ]) | (refine wpTree.take (v := ?_) (Or.inl ⟨by rfl, ?_⟩) ?_; rotate_left; (focus (intro _ hS; (try dsimp only at hS); go_split_ands; (try subst hS); go_simp; (try (with_reducible rfl)); done)); simp only [Act.put, List.setIfInBounds_toArray, List.set_cons_zero, List.set_cons_succ])))
          refine wpTree.one (fun K hK => ?_)
          go_simp
          refine hK.out _ _ hHeld (fun _ => ?_)
          clear hK K
          (repeat (first | (refine wpTree.take (v := undef) (Or.inr ⟨by rfl, rfl⟩) ?_; simp only [Act.put, List.setIfInBounds_toArray, List.set_cons_zero, List.set_cons_succ]) | (refine wpTree.take (v := .agg (vl ?_).toArray) (yieldsIf_load_mid rfl 25 _ rfl _ _ rfl (vl _) _ ?_ Try.underlying25 rfl (vinfoL _)) ?_; rotate_left; (focus (intro _ hS; refine range_next hS ?_; assumption)); simp only [Act.put, List.setIfInBounds_toArray, List.set_cons_zero, List.set_cons_succ]) | (refine wpTree.take (v := .agg (Lab.cells ?_).toArray) (yieldsIf_load_mid rfl 27 _ rfl _ _ rfl (Lab.cells _) _ ?_ Try.underlying27 rfl (linfo _)) ?_; rotate_left; (focus (intro _ hS; refine range_next hS ?_; assumption)); simp only [Act.put, List.setIfInBounds_toArray, List.set_cons_zero, List.set_cons_succ]) | (refine wpTree.take (v := ?_) (Or.inl ⟨by rfl, ?_⟩) ?_; rotate_left; (focus (intro _ hS; (try dsimp only at hS); go_split_ands; (try subst hS); go_simp; (try (with_reducible rfl)); done)); simp only [Act.put, List.setIfInBounds_toArray, List.set_cons_zero, List.set_cons_succ])))
          (repeat (first | (refine wpTree.take (v := undef) (Or.inr ⟨by rfl, rfl⟩) ?_; simp only [Act.put, List.setIfInBounds_toArray, List.set_cons_zero, List.set_cons_succ]) | (refine wpTree.take (v := .agg (vl ?_).toArray) (yieldsIf_load_mid rfl 25 _ rfl _ _ rfl (vl _) _ ?_ Try.underlying25 rfl (vinfoL _)) ?_; rotate_left; (focus (intro _ hS; refine range_next hS ?_; assumption)); simp only [Act.put, List.setIfInBounds_toArray, List.set_cons_zero, List.set_cons_succ]) | (refine wpTree.take (v := .agg (Lab.cells ?_).toArray) (yieldsIf_load_mid rfl 27 _ rfl _ _ rfl (Lab.cells _) _ ?_ Try.underlying27 rfl (linfo _)) ?_; rotate_left; (focus (intro _ hS; refine range_next hS ?_; assumption)); simp only [Act.put, List.setIfInBounds_toArray, List.set_cons_zero, List.set_cons_succ]) | (refine wpTree.take (v := ?_) (Or.inl ⟨by rfl, ?_⟩) ?_; rotate_left; (focus (intro _ hS; (try dsimp only at hS); go_split_ands; (try subst hS); go_simp; (try (with_reducible rfl)); done)); simp only [Act.put, List.setIfInBounds_toArray, List.set_cons_zero, List.set_cons_succ])))
          refine wpTree.one (fun K hK => ?_)
          go_simp
          go_at_call 15
          refine (HP.out _).mono ?_
          rintro e W8 ⟨rfl, hbW8⟩
          have hBelow := Below.trans hHeld (hbW8.mono (Below.size hHeld))
          refine hK.out _ _ hBelow (fun hHeld' => ?_)
          clear hK K hHeld hbW8 hBelow
          have hHeld := hHeld'
          clear hHeld'
          (repeat (first | (refine wpTree.take (v := undef) (Or.inr ⟨by rfl, rfl⟩) ?_; simp only [Act.put, List.setIfInBounds_toArray, List.set_cons_zero, List.set_cons_succ]) | (refine wpTree.take (v := .agg (vl ?_).toArray) (yieldsIf_load_mid rfl 25 _ rfl _ _ rfl (vl _) _ ?_ Try.underlying25 rfl (vinfoL _)) ?_; rotate_left; (focus (intro _ hS; refine range_next hS ?_; assumption)); simp only [Act.put, List.setIfInBounds_toArray, List.set_cons_zero, List.set_cons_succ]) | (refine wpTree.take (v := .agg (Lab.cells ?_).toArray) (yieldsIf_load_mid rfl 27 _ rfl _ _ rfl (Lab.cells _) _ ?_ Try.underlying27 rfl (linfo _)) ?_; rotate_left; (focus (intro _ hS; refine range_next hS ?_; assumption)); simp only [Act.put, List.setIfInBounds_toArray, List.set_cons_zero, List.set_cons_succ]) | (refine wpTree.take (v := ?_) (Or.inl ⟨by rfl, ?_⟩) ?_; rotate_left; (focus (intro _ hS; (try dsimp only at hS); go_split_ands; (try subst hS); go_simp; (try (with_reducible rfl)); done)); simp only [Act.put, List.setIfInBounds_toArray, List.set_cons_zero, List.set_cons_succ])))
          refine wpTree.one (fun K hK => ?_)
          go_simp
          go_at_call 14
          refine (HPC.out _).mono ?_
          rintro e W9 ⟨rfl, hbW9⟩
          have hBelow := Below.trans hHeld (hbW9.mono (Below.size hHeld))
          refine hK.out _ _ hBelow (fun hHeld' => ?_)
          clear hK K hHeld hbW9 hBelow
          have hHeld := hHeld'
          clear hHeld'
          (repeat (first | (refine wpTree.take (v := undef) (Or.inr ⟨by rfl, rfl⟩) ?_; simp only [Act.put, List.setIfInBounds_toArray, List.set_cons_zero, List.set_cons_succ]) | (refine wpTree.take (v := .agg (vl ?_).toArray) (yieldsIf_load_mid rfl 25 _ rfl _ _ rfl (vl _) _ ?_ Try.underlying25 rfl (vinfoL _)) ?_; rotate_left; (focus (intro _ hS; refine range_next hS ?_; assumption)); simp only [Act.put, List.setIfInBounds_toArray, List.set_cons_zero, List.set_cons_succ]) | (refine wpTree.take (v := .agg (Lab.cells ?_).toArray) (yieldsIf_load_mid rfl 27 _ rfl _ _ rfl (Lab.cells _) _ ?_ Try.underlying27 rfl (linfo _)) ?_; rotate_left; (focus (intro _ hS; refine range_next hS ?_; assumption)); simp only [Act.put, List.setIfInBounds_toArray, List.set_cons_zero, List.set_cons_succ]) | (refine wpTree.take (v := ?_) (Or.inl ⟨by rfl, ?_⟩) ?_; rotate_left; (focus (intro _ hS; (try dsimp only at hS); go_split_ands; (try subst hS); go_simp; (try (with_reducible rfl)); done)); simp only [Act.put, List.setIfInBounds_toArray, List.set_cons_zero, List.set_cons_succ])))
          refine wpTree.one (fun K hK => ?_)
          go_simp
          go_at_call 15
          refine (HP.out _).mono ?_
          rintro e W10 ⟨rfl, hbW10⟩
          have hBelow := Below.trans hHeld (hbW10.mono (Below.size hHeld))
          refine hK.out _ _ hBelow (fun hHeld' => ?_)
          clear hK K hHeld hbW10 hBelow
          have hHeld := hHeld'
          clear hHeld'
          (repeat (first | (refine wpTree.take (v := undef) (Or.inr ⟨by rfl, rfl⟩) ?_; simp only [Act.put, List.setIfInBounds_toArray, List.set_cons_zero, List.set_cons_succ]) | (refine wpTree.take (v := .agg (vl ?_).toArray) (yieldsIf_load_mid rfl 25 _ rfl _ _ rfl (vl _) _ ?_ Try.underlying25 rfl (vinfoL _)) ?_; rotate_left; (focus (intro _ hS; refine range_next hS ?_; assumption)); simp only [Act.put, List.setIfInBounds_toArray, List.set_cons_zero, List.set_cons_succ]) | (refine wpTree.take (v := .agg (Lab.cells ?_).toArray) (yieldsIf_load_mid rfl 27 _ rfl _ _ rfl (Lab.cells _) _ ?_ Try.underlying27 rfl (linfo _)) ?_; rotate_left; (focus (intro _ hS; refine range_next hS ?_; assumption)); simp only [Act.put, List.setIfInBounds_toArray, List.set_cons_zero, List.set_cons_succ]) | (refine wpTree.take (v := ?_) (Or.inl ⟨by rfl, ?_⟩) ?_; rotate_left; (focus (intro _ hS; (try dsimp only at hS); go_split_ands; (try subst hS); go_simp; (try (with_reducible rfl)); done)); simp only [Act.put, List.setIfInBounds_toArray, List.set_cons_zero, List.set_cons_succ])))
          refine wpTree.one (fun K hK => ?_)
          go_simp
          go_at_call 18
          refine (HDT.out _).mono ?_
          rintro e W11 ⟨rfl, hbW11⟩
          have hBelow := Below.trans hHeld (hbW11.mono (Below.size hHeld))
          refine hK.out _ _ hBelow (fun hHeld' => ?_)
          clear hK K hHeld hbW11 hBelow
          have hHeld := hHeld'
          clear hHeld'
          (repeat (first | (refine wpTree.take (v := undef) (Or.inr ⟨by rfl, rfl⟩) ?_; simp only [Act.put, List.setIfInBounds_toArray, List.set_cons_zero, List.set_cons_succ]) | (refine wpTree.take (v := .agg (vl ?_).toArray) (yieldsIf_load_mid rfl 25 _ rfl _ _ rfl (vl _) _ ?_ Try.underlying25 rfl (vinfoL _)) ?_; rotate_left; (focus (intro _ hS; refine range_next hS ?_; assumption)); simp only [Act.put, List.setIfInBounds_toArray, List.set_cons_zero, List.set_cons_succ]) | (refine wpTree.take (v := .agg (Lab.cells ?_).toArray) (yieldsIf_load_mid rfl 27 _ rfl _ _ rfl (Lab.cells _) _ ?_ Try.underlying27 rfl (linfo _)) ?_; rotate_left; (focus (intro _ hS; refine range_next hS ?_; assumption)); simp only [Act.put, List.setIfInBounds_toArray, List.set_cons_zero, List.set_cons_succ]) | (refine wpTree.take (v := ?_) (Or.inl ⟨by rfl, ?_⟩) ?_; rotate_left; (focus (intro _ hS; (try dsimp only at hS); go_split_ands; (try subst hS); go_simp; (try (with_reducible rfl)); done)); simp only [Act.put, List.setIfInBounds_toArray, List.set_cons_zero, List.set_cons_succ])))
          refine wpTree.one (fun K hK => ?_)
          go_simp
          go_at_call 17
          refine (HPH.out _).mono ?_
          rintro e W12 ⟨rfl, hbW12⟩
          have hBelow := Below.trans hHeld (hbW12.mono (Below.size hHeld))
          refine hK.out _ _ hBelow (fun hHeld' => ?_)
          clear hK K hHeld hbW12 hBelow
          have hHeld := hHeld'
          clear hHeld'
          (repeat (first | (refine wpTree.take (v := undef) (Or.inr ⟨by rfl, rfl⟩) ?_; simp only [Act.put, List.setIfInBounds_toArray, List.set_cons_zero, List.set_cons_succ]) | (refine wpTree.take (v := .agg (vl ?_).toArray) (yieldsIf_load_mid rfl 25 _ rfl _ _ rfl (vl _) _ ?_ Try.underlying25 rfl (vinfoL _)) ?_; rotate_left; (focus (intro _ hS; refine range_next hS ?_; assumption)); simp only [Act.put, List.setIfInBounds_toArray, List.set_cons_zero, List.set_cons_succ]) | (refine wpTree.take (v := .agg (Lab.cells ?_).toArray) (yieldsIf_load_mid rfl 27 _ rfl _ _ rfl (Lab.cells _) _ ?_ Try.underlying27 rfl (linfo _)) ?_; rotate_left; (focus (intro _ hS; refine range_next hS ?_; assumption)); simp only [Act.put, List.setIfInBounds_toArray, List.set_cons_zero, List.set_cons_succ]) | (refine wpTree.take (v := ?_) (Or.inl ⟨by rfl, ?_⟩) ?_; rotate_left; (focus (intro _ hS; (try dsimp only at hS); go_split_ands; (try subst hS); go_simp; (try (with_reducible rfl)); done)); simp only [Act.put, List.setIfInBounds_toArray, List.set_cons_zero, List.set_cons_succ])))
          refine wpTree.one (fun K hK => ?_)
          go_simp
          go_at_call 16
          refine (HSF.out _).mono ?_
          rintro e W13 ⟨rfl, hbW13⟩
          have hBelow := Below.trans hHeld (hbW13.mono (Below.size hHeld))
          refine hK.out _ _ hBelow (fun hHeld' => ?_)
          clear hK K hHeld hbW13 hBelow
          have hHeld := hHeld'
          clear hHeld'
          (repeat (first | (refine wpTree.take (v := undef) (Or.inr ⟨by rfl, rfl⟩) ?_; simp only [Act.put, List.setIfInBounds_toArray, List.set_cons_zero, List.set_cons_succ]) | (refine wpTree.take (v := .agg (vl ?_).toArray) (yieldsIf_load_mid rfl 25 _ rfl _ _ rfl (vl _) _ ?_ Try.underlying25 rfl (vinfoL _)) ?_; rotate_left; (focus (intro _ hS; refine range_next hS ?_; assumption)); simp only [Act.put, List.setIfInBounds_toArray, List.set_cons_zero, List.set_cons_succ]) | (refine wpTree.take (v := .agg (Lab.cells ?_).toArray) (yieldsIf_load_mid rfl 27 _ rfl _ _ rfl (Lab.cells _) _ ?_ Try.underlying27 rfl (linfo _)) ?_; rotate_left; (focus (intro _ hS; refine range_next hS ?_; assumption)); simp only [Act.put, List.setIfInBounds_toArray, List.set_cons_zero, List.set_cons_succ]) | (refine wpTree.take (v := ?_) (Or.inl ⟨by rfl, ?_⟩) ?_; rotate_left; (focus (intro _ hS; (try dsimp only at hS); go_split_ands; (try subst hS); go_simp; (try (with_reducible rfl)); done)); simp only [Act.put, List.setIfInBounds_toArray, List.set_cons_zero, List.set_cons_succ])))
          refine wpTree.done ?_
          have HF := Lib.hid (H6.out.2.2.2.trans (hHeld.mono H6.out.2.2.2.size))
          clear hHeld
          go_wp2_with fail
          go_ret
          exact ⟨rfl, HF.out⟩
        | true =>
          cases e1 : befB a b with
          | false =>
            rw [e1] at hAB
            have HAB := Lib.hid hAB
            clear hx hAB hBC hAC HT e1
            refine wp_region_tree (S := (fun W' => Below (wc).heap.size wc W')) (.one 0 (.take 1 (.take 2 (.take 3 (.take 4 (.take 5 (.take 6 (.one 7 (.take 8 (.take 9 (.take 10 (.take 11 (.take 12 (.one 13 (.take 14 (.take 15 (.take 16 (.take 17 (.take 18 (.one 19 (.take 20 (.take 21 (.take 22 (.take 23 (.take 25 (.take 26 (.one 24 (.one 27 (.take 28 (.take 29 (.take 30 (.take 32 (.one 31 (.one 33 (.one 34 (.take 35 (.take 36 (.take 37 (.take 38 (.one 39 (.take 40 (.take 41 (.take 42 .nil))))))))))))))))))))))))))))))))))))))))))) 9999 (by kernel_rfl) (by kernel_rfl) (by kernel_rfl) (by kernel_rfl) (by kernel_rfl) (fun _ _ d _ _ h => by cases d <;> exact h) ?_ (fun hHeld => ?_); (focus (exact (Below.refl _ _).drew)); simp only [Tree.map, List.getElem?_toArray, List.getElem?_cons_zero, List.getElem?_cons_succ]
            refine wpTree.one (fun K hK => ?_)
            go_simp
            go_at_call 9
            refine (alive5_any _).mono ?_
            rintro e V1 ⟨rfl, hbV1⟩
            have hBelow := Below.trans hHeld (hbV1.mono (Below.size hHeld))
            refine hK.out _ _ hBelow (fun hHeld' => ?_)
            clear hK K hHeld hbV1 hBelow
            have hHeld := hHeld'
            clear hHeld'
            (repeat (first | (refine wpTree.take (v := undef) (Or.inr ⟨by rfl, rfl⟩) ?_; simp only [Act.put, List.setIfInBounds_toArray, List.set_cons_zero, List.set_cons_succ]) | (refine wpTree.take (v := .agg (vl ?_).toArray) (yieldsIf_load_mid rfl 25 _ rfl _ _ rfl (vl _) _ ?_ Try.underlying25 rfl (vinfoL _)) ?_; rotate_left; (focus (intro _ hS; refine range_next hS ?_; assumption)); simp only [Act.put, List.setIfInBounds_toArray, List.set_cons_zero, List.set_cons_succ]) | (refine wpTree.take (v := .agg (Lab.cells ?_).toArray) (yieldsIf_load_mid rfl 27 _ rfl _ _ rfl (Lab.cells _) _ ?_ Try.underlying27 rfl (linfo _)) ?_; rotate_left; (focus (intro _ hS; refine range_next hS ?_; assumption)); simp only [Act.put, List.setIfInBounds_toArray, List.set_cons_zero, List.set_cons_succ]) | (refine wpTree.take (v := ?_) (Or.inl ⟨by rfl, ?_⟩) ?_; rotate_left; (focus (intro _ hS; (try dsimp only at hS); go_split_ands; (try subst hS); go_simp; (try (with_reducible rfl)); done)); simp only [Act.put, List.setIfInBounds_toArray, List.set_cons_zero, List.set_cons_succ])))
            refine wpTree.one (fun K hK => ?_)
            go_simp
            go_at_call 16
            refine (HAB.out _).mono ?_
            rintro e V2 ⟨rfl, hbV2⟩
            have hBelow := Below.trans hHeld (hbV2.mono (Below.size hHeld))
            refine hK.out _ _ hBelow (fun hHeld' => ?_)
            clear hK K hHeld hbV2 hBelow
            have hHeld := hHeld'
            clear hHeld'
            (repeat (first | (refine wpTree.take (v := undef) (Or.inr ⟨by rfl, rfl⟩) ?_; simp only [Act.put, List.setIfInBounds_toArray, List.set_cons_zero, List.set_cons_succ]) | (refine wpTree.take (v := .agg (vl ?_).toArray) (yieldsIf_load_mid rfl 25 _ rfl _ _ rfl (vl _) _ ?_ Try.underlying25 rfl (vinfoL _)) ?_; rotate_left; (focus (intro _ hS; refine range_next hS ?_; assumption)); simp only [Act.put, List.setIfInBounds_toArray, List.set_cons_zero, List.set_cons_succ]) | (refine wpTree.take (v := .agg (Lab.cells ?_).toArray) (yieldsIf_load_mid rfl 27 _ rfl _ _ rfl (Lab.cells _) _ ?_ Try.underlying27 rfl (linfo _)) ?_; rotate_left; (focus (intro _ hS; refine range_next hS ?_; assumption)); simp only [Act.put, List.setIfInBounds_toArray, List.set_cons_zero, List.set_cons_succ]) | (refine wpTree.take (v := ?_) (Or.inl ⟨by rfl, ?_⟩) ?_; rotate_left; (focus (intro _ hS; (try dsimp only at hS); go_split_ands; (try subst hS); go_simp; (try (with_reducible rfl)); done)); simp only [Act.put, List.setIfInBounds_toArray, List.set_cons_zero, List.set_cons_succ])))
            refine wpTree.one (fun K hK => ?_)
            go_simp
            refine hK.out _ _ hHeld (fun _ => ?_)
            clear hK K
            (repeat (first | (refine wpTree.take (v := undef) (Or.inr ⟨by rfl, rfl⟩) ?_; simp only [Act.put, List.setIfInBounds_toArray, List.set_cons_zero, List.set_cons_succ]) | (refine wpTree.take (v := .agg (vl ?_).toArray) (yieldsIf_load_mid rfl 25 _ rfl _ _ rfl (vl _) _ ?_ Try.underlying25 rfl (vinfoL _)) ?_; rotate_left; (focus (intro _ hS; refine range_next hS ?_; assumption)); simp only [Act.put, List.setIfInBounds_toArray, List.set_cons_zero, List.set_cons_succ]) | (refine wpTree.take (v := .agg (Lab.cells ?_).toArray) (yieldsIf_load_mid rfl 27 _ rfl _ _ rfl (Lab.cells _) _ ?_ Try.underlying27 rfl (linfo _)) ?_; rotate_left; (focus (intro _ hS; refine range_next hS ?_; assumption)); simp only [Act.put, List.setIfInBounds_toArray, List.set_cons_zero, List.set_cons_succ]) | (refine wpTree.take (v := ?_) (Or.inl ⟨by rfl, ?_⟩) ?_; rotate_left; (focus (intro _ hS; (try dsimp only at hS); go_split_ands; (try subst hS); go_simp; (try (with_reducible rfl)); done)); simp only [Act.put, List.setIfInBounds_toArray, List.set_cons_zero, List.set_cons_succ])))
            refine wpTree.one (fun K hK => ?_)
            go_simp
            refine hK.out _ _ hHeld (fun _ => ?_)
            clear hK K
            (repeat (first | (refine wpTree.take (v := undef) (Or.inr ⟨by rfl, rfl⟩) ?_; simp only [Act.put, List.setIfInBounds_toArray, List.set_cons_zero, List.set_cons_succ]) | (refine wpTree.take (v := .agg (vl ?_).toArray) (yieldsIf_load_mid rfl 25 _ rfl _ _ rfl (vl _) _ ?_ Try.underlying25 rfl (vinfoL _)) ?_; rotate_left; (focus (intro _ hS; refine range_next hS ?_; assumption)); simp only [Act.put, List.setIfInBounds_toArray, List.set_cons_zero, List.set_cons_succ]) | (refine wpTree.take (v := .agg (Lab.cells ?_).toArray) (yieldsIf_load_mid rfl 27 _ rfl _ _ rfl (Lab.cells _) _ ?_ Try.underlying27 rfl (linfo _)) ?_; rotate_left; (focus (intro _ hS; refine range_next hS ?_; assumption)); simp only [Act.put, List.setIfInBounds_toArray, List.set_cons_zero, List.set_cons_succ]) | (refine wpTree.take (v := ?_) (Or.inl ⟨by rfl, ?_⟩) ?_; rotate_left; (focus (intro _ hS; (try dsimp only at hS); go_split_ands; (try subst hS); go_simp; (try (with_reducible rfl)); done)); simp only [Act.put, List.setIfInBounds_toArray, List.set_cons_zero, List.set_cons_succ])))
            (repeat (first | (refine wpTree.take (v := undef) (Or.inr ⟨by rfl, rfl⟩) ?_; simp only [Act.put, List.setIfInBounds_toArray, List.set_cons_zero, List.set_cons_succ]) | (refine wpTree.take (v := .agg (vl ?_).toArray) (yieldsIf_load_mid rfl 25 _ rfl _ _ rfl (vl _) _ ?_ Try.underlying25 rfl (vinfoL _)) ?_; rotate_left; (focus (intro _ hS; refine range_next hS ?_; assumption)); simp only [Act.put, List.setIfInBounds_toArray, List.set_cons_zero, List.set_cons_succ]) | (refine wpTree.take (v := .agg (Lab.cells ?_).toArray) (yieldsIf_load_mid rfl 27 _ rfl _ _ rfl (Lab.cells _) _ ?_ Try.underlying27 rfl (linfo _)) ?_; rotate_left; (focus (intro _ hS; refine range_next hS ?_; assumption)); simp only [Act.put, List.setIfInBounds_toArray, List.set_cons_zero, List.set_cons_succ]) | (refine wpTree.take (v := ?_) (Or.inl ⟨by rfl, ?_⟩) ?_; rotate_left; (focus (intro _ hS; (try dsimp only at hS); go_split_ands; (try subst hS); go_simp; (try (with_reducible rfl)); done)); simp only [Act.put, List.setIfInBounds_toArray, List.set_cons_zero, List.set_cons_succ])))
            refine wpTree.one (fun K hK => ?_)
            go_simp
            go_at_call 15
            refine (HP.out _).mono ?_
            rintro e W8 ⟨rfl, hbW8⟩
            have hBelow := Below.trans hHeld (hbW8.mono (Below.size hHeld))
            refine hK.out _ _ hBelow (fun hHeld' => ?_)
            clear hK K hHeld hbW8 hBelow
            have hHeld := hHeld'
            clear hHeld'
            (repeat (first | (refine wpTree.take (v := undef) (Or.inr ⟨by rfl, rfl⟩) ?_; simp only [Act.put, List.setIfInBounds_toArray, List.set_cons_zero, List.set_cons_succ]) | (refine wpTree.take (v := .agg (vl ?_).toArray) (yieldsIf_load_mid rfl 25 _ rfl _ _ rfl (vl _) _ ?_ Try.underlying25 rfl (vinfoL _)) ?_; rotate_left; (focus (intro _ hS; refine range_next hS ?_; assumption)); simp only [Act.put, List.setIfInBounds_toArray, List.set_cons_zero, List.set_cons_succ]) | (refine wpTree.take (v := .agg (Lab.cells ?_).toArray) (yieldsIf_load_mid rfl 27 _ rfl _ _ rfl (Lab.cells _) _ ?_ Try.underlying27 rfl (linfo _)) ?_; rotate_left; (focus (intro _ hS; refine range_next hS ?_; assumption)); simp only [Act.put, List.setIfInBounds_toArray, List.set_cons_zero, List.set_cons_succ]) | (refine wpTree.take (v := ?_) (Or.inl ⟨by rfl, ?_⟩) ?_; rotate_left; (focus (intro _ hS; (try dsimp only at hS); go_split_ands; (try subst hS); go_simp; (try (with_reducible rfl)); done)); simp only [Act.put, List.setIfInBounds_toArray, List.set_cons_zero, List.set_cons_succ])))
            refine wpTree.one (fun K hK => ?_)
            go_simp
            go_at_call 14
            refine (HPC.out _).mono ?_
            rintro e W9 ⟨rfl, hbW9⟩
            have hBelow := Below.trans hHeld (hbW9.mono (Below.size hHeld))
            refine hK.out _ _ hBelow (fun hHeld' => ?_)
            clear hK K hHeld hbW9 hBelow
            have hHeld := hHeld'
            clear hHeld'
            (repeat (first | (refine wpTree.take (v := undef) (Or.inr ⟨by rfl, rfl⟩) ?_; simp only [Act.put, List.setIfInBounds_toArray, List.set_cons_zero, List.set_cons_succ]) | (refine wpTree.take (v := .agg (vl ?_).toArray) (yieldsIf_load_mid rfl 25 _ rfl _ _ rfl (vl _) _ ?_ Try.underlying25 rfl (vinfoL _)) ?_; rotate_left; (focus (intro _ hS; refine range_next hS ?_; assumption)); simp only [Act.put, List.setIfInBounds_toArray, List.set_cons_zero, List.set_cons_succ]) | (refine wpTree.take (v := .agg (Lab.cells ?_).toArray) (yieldsIf_load_mid rfl 27 _ rfl _ _ rfl (Lab.cells _) _ ?_ Try.underlying27 rfl (linfo _)) ?_; rotate_left; (focus (intro _ hS; refine range_next hS ?_; assumption)); simp only [Act.put, List.setIfInBounds_toArray, List.set_cons_zero, List.set_cons_succ]) | (refine wpTree.take (v := ?_) (Or.inl ⟨by rfl, ?_⟩) ?_; rotate_left; (focus (intro _ hS; (try dsimp only at hS); go_split_ands; (try subst hS); go_simp; (try (with_reducible rfl)); done)); simp only [Act.put, List.setIfInBounds_toArray, List.set_cons_zero, List.set_cons_succ])))
            refine wpTree.one (fun K hK => ?_)
            go_simp
            go_at_call 15
            refine (HP.out _).mono ?_
            rintro e W10 ⟨rfl, hbW10⟩
            have hBelow := Below.trans hHeld (hbW10.mono (Below.size hHeld))
            refine hK.out _ _ hBelow (fun hHeld' => ?_)
            clear hK K hHeld hbW10 hBelow
            have hHeld := hHeld'
            clear hHeld'
            (repeat (first | (refine wpTree.take (v := undef) (Or.inr ⟨by rfl, rfl⟩) ?_; simp only [Act.put, List.setIfInBounds_toArray, List.set_cons_zero, List.set_cons_succ]) | (refine wpTree.take (v := .agg (vl ?_).toArray) (yieldsIf_load_mid rfl 25 _ rfl _ _ rfl (vl _) _ ?_ Try.underlying25 rfl (vinfoL _)) ?_; rotate_left; (focus (intro _ hS; refine range_next hS ?_; assumption)); simp only [Act.put, List.setIfInBounds_toArray, List.set_cons_zero, List.set_cons_succ]) | (refine wpTree.take (v := .agg (Lab.cells ?_).toArray) (yieldsIf_load_mid rfl 27 _ rfl _ _ rfl (Lab.cells _) _ ?_ Try.underlying27 rfl (linfo _)) ?_; rotate_left; (focus (intro _ hS; refine range_next hS ?_; assumption)); simp only [Act.put, List.setIfInBounds_toArray, List.set_cons_zero, List.set_cons_succ]) | (refine wpTree.take (v := ?_) (Or.inl ⟨by rfl, ?_⟩) ?_; rotate_left; (focus (intro _ hS; (try dsimp only at hS); go_split_ands; (try subst hS); go_simp; (try (with_reducible rfl)); done)); simp only [Act.put, List.setIfInBounds_toArray, List.set_cons_zero, List.set_cons_succ])))
            refine wpTree.one (fun K hK => ?_)
            go_simp
            go_at_call 18
            refine (HDT.out _).mono ?_
            rintro e W11 ⟨rfl, hbW11⟩
            have hBelow := Below.trans hHeld (hbW11.mono (Below.size hHeld))
            refine hK.out _ _ hBelow (fun hHeld' => ?_)
            clear hK K hHeld hbW11 hBelow
            have hHeld := hHeld'
            clear hHeld'
            (repeat (first | (refine wpTree.take (v := undef) (Or.inr ⟨by rfl, rfl⟩) ?_; simp only [Act.put, List.setIfInBounds_toArray, List.set_cons_zero, List.set_cons_succ]) | (refine wpTree.take (v := .agg (vl ?_).toArray) (yieldsIf_load_mid rfl 25 _ rfl _ _ rfl (vl _) _ ?_ Try.underlying25 rfl (vinfoL _)) ?_; rotate_left; (focus (intro _ hS; refine range_next hS ?_; assumption)); simp only [Act.put, List.setIfInBounds_toArray, List.set_cons_zero, List.set_cons_succ]) | (refine wpTree.take (v := .agg (Lab.cells ?_).toArray) (yieldsIf_load_mid rfl 27 _ rfl _ _ rfl (Lab.cells _) _ ?_ Try.underlying27 rfl (linfo _)) ?_; rotate_left; (focus (intro _ hS; refine range_next hS ?_; assumption)); simp only [Act.put, List.setIfInBounds_toArray, List.set_cons_zero, List.set_cons_succ]) | (refine wpTree.take (v := ?_) (Or.inl ⟨by rfl, ?_⟩) ?_; rotate_left; (focus (intro _ hS; (try dsimp only at hS); go_split_ands; (try subst hS); go_simp; (try (with_reducible rfl)); done)); simp only [Act.put, List.setIfInBounds_toArray, List.set_cons_zero, List.set_cons_succ])))
            refine wpTree.one (fun K hK => ?_)
            go_simp
            go_at_call 17
            refine (HPH.out _).mono ?_
            rintro e W12 ⟨rfl, hbW12⟩
            have hBelow := Below.trans hHeld (hbW12.mono (Below.size hHeld))
            refine hK.out _ _ hBelow (fun hHeld' => ?_)
            clear hK K hHeld hbW12 hBelow
            have hHeld := hHeld'
            clear hHeld'
            (repeat (first | (refine wpTree.take (v := undef) (Or.inr ⟨by rfl, rfl⟩) ?_; simp only [Act.put, List.setIfInBounds_toArray, List.set_cons_zero, List.set_cons_succ]) | (refine wpTree.take (v := .agg (vl ?_).toArray) (yieldsIf_load_mid rfl 25 _ rfl _ _ rfl (vl _) _ ?_ Try.underlying25 rfl (vinfoL _)) ?_; rotate_left; (focus (intro _ hS; refine range_next hS ?_; assumption)); simp only [Act.put, List.setIfInBounds_toArray, List.set_cons_zero, List.set_cons_succ]) | (refine wpTree.take (v := .agg (Lab.cells ?_).toArray) (yieldsIf_load_mid rfl 27 _ rfl _ _ rfl (Lab.cells _) _ ?_ Try.underlying27 rfl (linfo _)) ?_; rotate_left; (focus (intro _ hS; refine range_next hS ?_; assumption)); simp only [Act.put, List.setIfInBounds_toArray, List.set_cons_zero, List.set_cons_succ]) | (refine wpTree.take (v := ?_) (Or.inl ⟨by rfl, ?_⟩) ?_; rotate_left; (focus (intro _ hS; (try dsimp only at hS); go_split_ands; (try subst hS); go_simp; (try (with_reducible rfl)); done)); simp only [Act.put, List.setIfInBounds_toArray, List.set_cons_zero, List.set_cons_succ])))
            refine wpTree.one (fun K hK => ?_)
            go_simp
            go_at_call 16
            refine (HSF.out _).mono ?_
            rintro e W13 ⟨rfl, hbW13⟩
            have hBelow := Below.trans hHeld (hbW13.mono (Below.size hHeld))
            refine hK.out _ _ hBelow (fun hHeld' => ?_)
            clear hK K hHeld hbW13 hBelow
            have hHeld := hHeld'
            clear hHeld'
            (repeat (first | (refine wpTree.take (v := undef) (Or.inr ⟨by rfl, rfl⟩) ?_; simp only [Act.put, List.setIfInBounds_toArray, List.set_cons_zero, List.set_cons_succ]) | (refine wpTree.take (v := .agg (vl ?_).toArray) (yieldsIf_load_mid rfl 25 _ rfl _ _ rfl (vl _) _ ?_ Try.underlying25 rfl (vinfoL _)) ?_; rotate_left; (focus (intro _ hS; refine range_next hS ?_; assumption)); simp only [Act.put, List.setIfInBounds_toArray, List.set_cons_zero, List.set_cons_succ]) | (refine wpTree.take (v := .agg (Lab.cells ?_).toArray) (yieldsIf_load_mid rfl 27 _ rfl _ _ rfl (Lab.cells _) _ ?_ Try.underlying27 rfl (linfo _)) ?_; rotate_left; (focus (intro _ hS; refine range_next hS ?_; assumption)); simp only [Act.put, List.setIfInBounds_toArray, List.set_cons_zero, List.set_cons_succ]) | (refine wpTree.take (v := ?_) (Or.inl ⟨by rfl, ?_⟩) ?_; rotate_left; (focus (intro _ hS; (try dsimp only at hS); go_split_ands; (try subst hS); go_simp; (try (with_reducible rfl)); done)); simp only [Act.put, List.setIfInBounds_toArray, List.set_cons_zero, List.set_cons_succ])))
            refine wpTree.done ?_
            have HF := Lib.hid (H6.out.2.2.2.trans (hHeld.mono H6.out.2.2.2.size))
            clear hHeld
            go_wp2_with fail
            go_ret
            exact ⟨rfl, HF.out⟩
          | true =>
            rw [e1] at hAB
            have HAB := Lib.hid hAB
            cases e2 : befB b c with
            | false =>
              rw [e2] at hBC
              have HBC := Lib.hid hBC
              clear hx hAB hBC hAC HT e1 e2
              refine wp_region_tree (S := (fun W' => Below (wc).heap.size wc W')) (.one 0 (.take 1 (.take 2 (.take 3 (.take 4 (.take 5 (.take 6 (.one 7 (.take 8 (.take 9 (.take 10 (.take 11 (.take 12 (.one 13 (.take 14 (.take 15 (.take 16 (.take 17 (.take 18 (.one 19 (.take 20 (.take 21 (.take 22 (.take 23 (.take 25 (.take 26 (.one 24 (.one 27 (.take 28 (.take 29 (.take 30 (.take 32 (.one 31 (.one 33 (.one 34 (.take 35 (.take 36 (.take 37 (.take 38 (.one 39 (.take 40 (.take 41 (.take 42 .nil))))))))))))))))))))))))))))))))))))))))))) 9999 (by kernel_rfl) (by kernel_rfl) (by kernel_rfl) (by kernel_rfl) (by kernel_rfl) (fun _ _ d _ _ h => by cases d <;> exact h) ?_ (fun hHeld => ?_); (focus (exact (Below.refl _ _).drew)); simp only [Tree.map, List.getElem?_toArray, List.getElem?_cons_zero, List.getElem?_cons_succ]
              refine wpTree.one (fun K hK => ?_)
              go_simp
              go_at_call 9
              refine (alive5_any _).mono ?_
              rintro e V1 ⟨rfl, hbV1⟩
              have hBelow := Below.trans hHeld (hbV1.mono (Below.size hHeld))
              refine hK.out _ _ hBelow (fun hHeld' => ?_)
              clear hK K hHeld hbV1 hBelow
              have hHeld := hHeld'
              clear hHeld'
              (repeat (first | (refine wpTree.take (v := undef) (Or.inr ⟨by rfl, rfl⟩) ?_; simp only [Act.put, List.setIfInBounds_toArray, List.set_cons_zero, List.set_cons_succ]) | (refine wpTree.take (v := .agg (vl ?_).toArray) (yieldsIf_load_mid rfl 25 _ rfl _ _ rfl (vl _) _ ?_ Try.underlying25 rfl (vinfoL _)) ?_; rotate_left; (focus (intro _ hS; refine range_next hS ?_; assumption)); simp only [Act.put, List.setIfInBounds_toArray, List.set_cons_zero, List.set_cons_succ]) | (refine wpTree.take (v := .agg (Lab.cells ?_).toArray) (yieldsIf_load_mid rfl 27 _ rfl _ _ rfl (Lab.cells _) _ ?_ Try.underlying27 rfl (linfo _)) ?_; rotate_left; (focus (intro _ hS; refine range_next hS ?_; assumption)); simp only [Act.put, List.setIfInBounds_toArray, List.set_cons_zero, List.set_cons_succ]) | (refine wpTree.take (v := ?_) (Or.inl ⟨by rfl, ?_⟩) ?_; rotate_left; (focus (intro _ hS; (try dsimp only at hS); go_split_ands; (try subst hS); go_simp; (try (with_reducible rfl)); done)); simp only [Act.put, List.setIfInBounds_toArray, List.set_cons_zero, List.set_cons_succ])))
              refine wpTree.one (fun K hK => ?_)
              go_simp
              go_at_call 16
              refine (HAB.out _).mono ?_
              rintro e V2 ⟨rfl, hbV2⟩
              have hBelow := Below.trans hHeld (hbV2.mono (Below.size hHeld))
              refine hK.out _ _ hBelow (fun hHeld' => ?_)
              clear hK K hHeld hbV2 hBelow
              have hHeld := hHeld'
              clear hHeld'
              (repeat (first | (refine wpTree.take (v := undef) (Or.inr ⟨by rfl, rfl⟩) ?_; simp only [Act.put, List.setIfInBounds_toArray, List.set_cons_zero, List.set_cons_succ]) | (refine wpTree.take (v := .agg (vl ?_).toArray) (yieldsIf_load_mid rfl 25 _ rfl _ _ rfl (vl _) _ ?_ Try.underlying25 rfl (vinfoL _)) ?_; rotate_left; (focus (intro _ hS; refine range_next hS ?_; assumption)); simp only [Act.put, List.setIfInBounds_toArray, List.set_cons_zero, List.set_cons_succ]) | (refine wpTree.take (v := .agg (Lab.cells ?_).toArray) (yieldsIf_load_mid rfl 27 _ rfl _ _ rfl (Lab.cells _) _ ?_ Try.underlying27 rfl (linfo _)) ?_; rotate_left; (focus (intro _ hS; refine range_next hS ?_; assumption)); simp only [Act.put, List.setIfInBounds_toArray, List.set_cons_zero, List.set_cons_succ]) | (refine wpTree.take (v := ?_) (Or.inl ⟨by rfl, ?_⟩) ?_; rotate_left; (focus (intro _ hS; (try dsimp only at hS); go_split_ands; (try subst hS); go_simp; (try (with_reducible rfl)); done)); simp only [Act.put, List.setIfInBounds_toArray, List.set_cons_zero, List.set_cons_succ])))
              refine wpTree.one (fun K hK => ?_)
              go_simp
              go_at_call 16
              refine (HBC.out _).mono ?_
              rintro e V3 ⟨rfl, hbV3⟩
              have hBelow := Below.trans hHeld (hbV3.mono (Below.size hHeld))
              refine hK.out _ _ hBelow (fun hHeld' => ?_)
              clear hK K hHeld hbV3 hBelow
              have hHeld := hHeld'
              clear hHeld'
              (repeat (first | (refine wpTree.take (v := undef) (Or.inr ⟨by rfl, rfl⟩) ?_; simp only [Act.put, List.setIfInBounds_toArray, List.set_cons_zero, List.set_cons_succ]) | (refine wpTree.take (v := .agg (vl ?_).toArray) (yieldsIf_load_mid rfl 25 _ rfl _ _ rfl (vl _) _ ?_ Try.underlying25 rfl (vinfoL _)) ?_; rotate_left; (focus (intro _ hS; refine range_next hS ?_; assumption)); simp only [Act.put, List.setIfInBounds_toArray, List.set_cons_zero, List.set_cons_succ]) | (refine wpTree.take (v := .agg (Lab.cells ?_).toArray) (yieldsIf_load_mid rfl 27 _ rfl _ _ rfl (Lab.cells _) _ ?_ Try.underlying27 rfl (linfo _)) ?_; rotate_left; (focus (intro _ hS; refine range_next hS ?_; assumption)); simp only [Act.put, List.setIfInBounds_toArray, List.set_cons_zero, List.set_cons_succ]) | (refine wpTree.take (v := ?_) (Or.inl ⟨by rfl, ?_⟩) ?_; rotate_left; (focus (intro _ hS; (try dsimp only at hS); go_split_ands; (try subst hS); go_simp; (try (with_reducible rfl)); done)); simp only [Act.put, List.setIfInBounds_toArray, List.set_cons_zero, List.set_cons_succ])))
              refine wpTree.one (fun K hK => ?_)
              go_simp
              refine hK.out _ _ hHeld (fun _ => ?_)
              clear hK K
              (repeat (first | (refine wpTree.take (v := undef) (Or.inr ⟨by rfl, rfl⟩) ?_; simp only [Act.put, List.setIfInBounds_toArray, List.set_cons_zero, List.set_cons_succ]) | (refine wpTree.take (v := .agg (vl ?_).toArray) (yieldsIf_load_mid rfl 25 _ rfl _ _ rfl (vl _) _ ?_ Try.underlying25 rfl (vinfoL _)) ?_; rotate_left; (focus (intro _ hS; refine range_next hS ?_; assumption)); simp only [Act.put, List.setIfInBounds_toArray, List.set_cons_zero, List.set_cons_succ]) | (refine wpTree.take (v := .agg (Lab.cells ?_).toArray) (yieldsIf_load_mid rfl 27 _ rfl _ _ rfl (Lab.cells _) _ ?_ Try.underlying27 rfl (linfo _)) ?_; rotate_left; (focus (intro _ hS; refine range_next hS ?_; assumption)); simp only [Act.put, List.setIfInBounds_toArray, List.set_cons_zero, List.set_cons_succ]) | (refine wpTree.take (v := ?_) (Or.inl ⟨by rfl, ?_⟩) ?_; rotate_left; (focus (intro _ hS; (try dsimp only at hS); go_split_ands; (try subst hS); go_simp; (try (with_reducible rfl)); done)); simp only [Act.put, List.setIfInBounds_toArray, List.set_cons_zero, List.set_cons_succ])))
              (repeat (first | (refine wpTree.take (v := undef) (Or.inr ⟨by rfl, rfl⟩) ?_; simp only [Act.put, List.setIfInBounds_toArray, List.set_cons_zero, List.set_cons_succ]) | (refine wpTree.take (v := .agg (vl ?_).toArray) (yieldsIf_load_mid rfl 25 _ rfl _ _ rfl (vl _) _ ?_ Try.underlying25 rfl (vinfoL _)) ?_; rotate_left; (focus (intro _ hS; refine range_next hS ?_; assumption)); simp only [Act.put, List.setIfInBounds_toArray, List.set_cons_zero, List.set_cons_succ]) | (refine wpTree.take (v := .agg (Lab.cells ?_).toArray) (yieldsIf_load_mid rfl 27 _ rfl _ _ rfl (Lab.cells _) _ ?_ Try.underlying27 rfl (linfo _)) ?_; rotate_left; (focus (intro _ hS; refine range_next hS ?_; assumption)); simp only [Act.put, List.setIfInBounds_toArray, List.set_cons_zero, List.set_cons_succ]) | (refine wpTree.take (v := ?_) (Or.inl ⟨by rfl, ?_⟩) ?_; rotate_left; (focus (intro _ hS; (try dsimp only at hS); go_split_ands; (try subst hS); go_simp; (try (with_reducible rfl)); done)); simp only [Act.put, List.setIfInBounds_toArray, List.set_cons_zero, List.set_cons_succ])))
              refine wpTree.one (fun K hK => ?_)
              go_simp
              go_at_call 15
              refine (HP.out _).mono ?_
              rintro e W8 ⟨rfl, hbW8⟩
              have hBelow := Below.trans hHeld (hbW8.mono (Below.size hHeld))
              refine hK.out _ _ hBelow (fun hHeld' => ?_)
              clear hK K hHeld hbW8 hBelow
              have hHeld := hHeld'
              clear hHeld'
              (repeat (first | (refine wpTree.take (v := undef) (Or.inr ⟨by rfl, rfl⟩) ?_; simp only [Act.put, List.setIfInBounds_toArray, List.set_cons_zero, List.set_cons_succ]) | (refine wpTree.take (v := .agg (vl ?_).toArray) (yieldsIf_load_mid rfl 25 _ rfl _ _ rfl (vl _) _ ?_ Try.underlying25 rfl (vinfoL _)) ?_; rotate_left; (focus (intro _ hS; refine range_next hS ?_; assumption)); simp only [Act.put, List.setIfInBounds_toArray, List.set_cons_zero, List.set_cons_succ]) | (refine wpTree.take (v := .agg (Lab.cells ?_).toArray) (yieldsIf_load_mid rfl 27 _ rfl _ _ rfl (Lab.cells _) _ ?_ Try.underlying27 rfl (linfo _)) ?_; rotate_left; (focus (intro _ hS; refine range_next hS ?_; assumption)); simp only [Act.put, List.setIfInBounds_toArray, List.set_cons_zero, List.set_cons_succ]) | (refine wpTree.take (v := ?_) (Or.inl ⟨by rfl, ?_⟩) ?_; rotate_left; (focus (intro _ hS; (try dsimp only at hS); go_split_ands; (try subst hS); go_simp; (try (with_reducible rfl)); done)); simp only [Act.put, List.setIfInBounds_toArray, List.set_cons_zero, List.set_cons_succ])))
              refine wpTree.one (fun K hK => ?_)
              go_simp
              go_at_call 14
              refine (HPC.out _).mono ?_
              rintro e W9 ⟨rfl, hbW9⟩
              have hBelow := Below.trans hHeld (hbW9.mono (Below.size hHeld))
              refine hK.out _ _ hBelow (fun hHeld' => ?_)
              clear hK K hHeld hbW9 hBelow
              have hHeld := hHeld'
              clear hHeld'
              (repeat (first | (refine wpTree.take (v := undef) (Or.inr ⟨by rfl, rfl⟩) ?_; simp only [Act.put, List.setIfInBounds_toArray, List.set_cons_zero, List.set_cons_succ]) | (refine wpTree.take (v := .agg (vl ?_).toArray) (yieldsIf_load_mid rfl 25 _ rfl _ _ rfl (vl _) _ ?_ Try.underlying25 rfl (vinfoL _)) ?_; rotate_left; (focus (intro _ hS; refine range_next hS ?_; assumption)); simp only [Act.put, List.setIfInBounds_toArray, List.set_cons_zero, List.set_cons_succ]) | (refine wpTree.take (v := .agg (Lab.cells ?_).toArray) (yieldsIf_load_mid rfl 27 _ rfl _ _ rfl (Lab.cells _) _ ?_ Try.underlying27 rfl (linfo _)) ?_; rotate_left; (focus (intro _ hS; refine range_next hS ?_; assumption)); simp only [Act.put, List.setIfInBounds_toArray, List.set_cons_zero, List.set_cons_succ]) | (refine wpTree.take (v := ?_) (Or.inl ⟨by rfl, ?_⟩) ?_; rotate_left; (focus (intro _ hS; (try dsimp only at hS); go_split_ands; (try subst hS); go_simp; (try (with_reducible rfl)); done)); simp only [Act.put, List.setIfInBounds_toArray, List.set_cons_zero, List.set_cons_succ])))
              refine wpTree.one (fun K hK => ?_)
              go_simp
              go_at_call 15
              refine (HP.out _).mono ?_
              rintro e W10 ⟨rfl, hbW10⟩
              have hBelow := Below.trans hHeld (hbW10.mono (Below.size hHeld))
              refine hK.out _ _ hBelow (fun hHeld' => ?_)
              clear hK K hHeld hbW10 hBelow
              have hHeld := hHeld'
              clear hHeld'
              (repeat (first | (refine wpTree.take (v := undef) (Or.inr ⟨by rfl, rfl⟩) ?_; simp only [Act.put, List.setIfInBounds_toArray, List.set_cons_zero, List.set_cons_succ]) | (refine wpTree.take (v := .agg (vl ?_).toArray) (yieldsIf_load_mid rfl 25 _ rfl _ _ rfl (vl _) _ ?_ Try.underlying25 rfl (vinfoL _)) ?_; rotate_left; (focus (intro _ hS; refine range_next hS ?_; assumption)); simp only [Act.put, List.setIfInBounds_toArray, List.set_cons_zero, List.set_cons_succ]) | (refine wpTree.take (v := .agg (Lab.cells ?_).toArray) (yieldsIf_load_mid rfl 27 _ rfl _ _ rfl (Lab.cells _) _ ?_ Try.underlying27 rfl (linfo _)) ?_; rotate_left; (focus (intro _ hS; refine range_next hS ?_; assumption)); simp only [Act.put, List.setIfInBounds_toArray, List.set_cons_zero, List.set_cons_succ]) | (refine wpTree.take (v := ?_) (Or.inl ⟨by rfl, ?_⟩) ?_; rotate_left; (focus (intro _ hS; (try dsimp only at hS); go_split_ands; (try subst hS); go_simp; (try (with_reducible rfl)); done)); simp only [Act.put, List.setIfInBounds_toArray, List.set_cons_zero, List.set_cons_succ])))
              refine wpTree.one (fun K hK => ?_)
              go_simp
              go_at_call 18
              refine (HDT.out _).mono ?_
              rintro e W11 ⟨rfl, hbW11⟩
              have hBelow := Below.trans hHeld (hbW11.mono (Below.size hHeld))
              refine hK.out _ _ hBelow (fun hHeld' => ?_)
              clear hK K hHeld hbW11 hBelow
              have hHeld := hHeld'
              clear hHeld'
              (repeat (first | (refine wpTree.take (v := undef) (Or.inr ⟨by rfl, rfl⟩) ?_; simp only [Act.put, List.setIfInBounds_toArray, List.set_cons_zero, List.set_cons_succ]) | (refine wpTree.take (v := .agg (vl ?_).toArray) (yieldsIf_load_mid rfl 25 _ rfl _ _ rfl (vl _) _ ?_ Try.underlying25 rfl (vinfoL _)) ?_; rotate_left; (focus (intro _ hS; refine range_next hS ?_; assumption)); simp only [Act.put, List.setIfInBounds_toArray, List.set_cons_zero, List.set_cons_succ]) | (refine wpTree.take (v := .agg (Lab.cells ?_).toArray) (yieldsIf_load_mid rfl 27 _ rfl _ _ rfl (Lab.cells _) _ ?_ Try.underlying27 rfl (linfo _)) ?_; rotate_left; (focus (intro _ hS; refine range_next hS ?_; assumption)); simp only [Act.put, List.setIfInBounds_toArray, List.set_cons_zero, List.set_cons_succ]) | (refine wpTree.take (v := ?_) (Or.inl ⟨by rfl, ?_⟩) ?_; rotate_left; (focus (intro _ hS; (try dsimp only at hS); go_split_ands; (try subst hS); go_simp; (try (with_reducible rfl)); done)); simp only [Act.put, List.setIfInBounds_toArray, List.set_cons_zero, List.set_cons_succ])))
              refine wpTree.one (fun K hK => ?_)
              go_simp
              go_at_call 17
              refine (HPH.out _).mono ?_
              rintro e W12 ⟨rfl, hbW12⟩
              have hBelow := Below.trans hHeld (hbW12.mono (Below.size hHeld))
              refine hK.out _ _ hBelow (fun hHeld' => ?_)
              clear hK K hHeld hbW12 hBelow
              have hHeld := hHeld'
              clear hHeld'
              (repeat (first | (refine wpTree.take (v := undef) (Or.inr ⟨by rfl, rfl⟩) ?_; simp only [Act.put, List.setIfInBounds_toArray, List.set_cons_zero, List.set_cons_succ]) | (refine wpTree.take (v := .agg (vl ?_).toArray) (yieldsIf_load_mid rfl 25 _ rfl _ _ rfl (vl _) _ ?_ Try.underlying25 rfl (vinfoL _)) ?_; rotate_left; (focus (intro _ hS; refine range_next hS ?_; assumption)); simp only [Act.put, List.setIfInBounds_toArray, List.set_cons_zero, List.set_cons_succ]) | (refine wpTree.take (v := .agg (Lab.cells ?_).toArray) (yieldsIf_load_mid rfl 27 _ rfl _ _ rfl (Lab.cells _) _ ?_ Try.underlying27 rfl (linfo _)) ?_; rotate_left; (focus (intro _ hS; refine range_next hS ?_; assumption)); simp only [Act.put, List.setIfInBounds_toArray, List.set_cons_zero, List.set_cons_succ]) | (refine wpTree.take (v := ?_) (Or.inl ⟨by rfl, ?_⟩) ?_; rotate_left; (focus (intro _ hS; (try dsimp only at hS); go_split_ands; (try subst hS); go_simp; (try (with_reducible rfl)); done)); simp only [Act.put, List.setIfInBounds_toArray, List.set_cons_zero, List.set_cons_succ])))
              refine wpTree.one (fun K hK => ?_)
              go_simp
              go_at_call 16
              refine (HSF.out _).mono ?_
              rintro e W13 ⟨rfl, hbW13⟩
              have hBelow := Below.trans hHeld (hbW13.mono (Below.size hHeld))
              refine hK.out _ _ hBelow (fun hHeld' => ?_)
              clear hK K hHeld hbW13 hBelow
              have hHeld := hHeld'
              clear hHeld'
              (repeat (first | (refine wpTree.take (v := undef) (Or.inr ⟨by rfl, rfl⟩) ?_; simp only [Act.put, List.setIfInBounds_toArray, List.set_cons_zero, List.set_cons_succ]) | (refine wpTree.take (v := .agg (vl ?_).toArray) (yieldsIf_load_mid rfl 25 _ rfl _ _ rfl (vl _) _ ?_ Try.underlying25 rfl (vinfoL _)) ?_; rotate_left; (focus (intro _ hS; refine range_next hS ?_; assumption)); simp only [Act.put, List.setIfInBounds_toArray, List.set_cons_zero, List.set_cons_succ]) | (refine wpTree.take (v := .agg (Lab.cells ?_).toArray) (yieldsIf_load_mid rfl 27 _ rfl _ _ rfl (Lab.cells _) _ ?_ Try.underlying27 rfl (linfo _)) ?_; rotate_left; (focus (intro _ hS; refine range_next hS ?_; assumption)); simp only [Act.put, List.setIfInBounds_toArray, List.set_cons_zero, List.set_cons_succ]) | (refine wpTree.take (v := ?_) (Or.inl ⟨by rfl, ?_⟩) ?_; rotate_left; (focus (intro _ hS; (try dsimp only at hS); go_split_ands; (try subst hS); go_simp; (try (with_reducible rfl)); done)); simp only [Act.put, List.setIfInBounds_toArray, List.set_cons_zero, List.set_cons_succ])))
              refine wpTree.done ?_
              have HF := Lib.hid (H6.out.2.2.2.trans (hHeld.mono H6.out.2.2.2.size))
              clear hHeld
              go_wp2_with fail
              go_ret
              exact ⟨rfl, HF.out⟩
            | true =>
              rw [e2] at hBC
              have HBC := Lib.hid hBC
              have e3 := HT.out (by rw [e2] at hx; simpa using hx.symm) e1 e2
              rw [e3] at hAC
              have HAC := Lib.hid hAC
              clear hx hAB hBC hAC HT e1 e2 e3
              refine wp_region_tree (S := (fun W' => Below (wc).heap.size wc W')) (.one 0 (.take 1 (.take 2 (.take 3 (.take 4 (.take 5 (.take 6 (.one 7 (.take 8 (.take 9 (.take 10 (.take 11 (.take 12 (.one 13 (.take 14 (.take 15 (.take 16 (.take 17 (.take 18 (.one 19 (.take 20 (.take 21 (.take 22 (.take 23 (.take 25 (.take 26 (.one 24 (.one 27 (.take 28 (.take 29 (.take 30 (.take 32 (.one 31 (.one 33 (.one 34 (.take 35 (.take 36 (.take 37 (.take 38 (.one 39 (.take 40 (.take 41 (.take 42 .nil))))))))))))))))))))))))))))))))))))))))))) 9999 (by kernel_rfl) (by kernel_rfl) (by kernel_rfl) (by kernel_rfl) (by kernel_rfl) (fun _ _ d _ _ h => by cases d <;> exact h) ?_ (fun hHeld => ?_); (focus (exact (Below.refl _ _).drew)); simp only [Tree.map, List.getElem?_toArray, List.getElem?_cons_zero, List.getElem?_cons_succ]
              refine wpTree.one (fun K hK => ?_)
              go_simp
              go_at_call 9
              refine (alive5_any _).mono ?_
              rintro e V1 ⟨rfl, hbV1⟩
              have hBelow := Below.trans hHeld (hbV1.mono (Below.size hHeld))
              refine hK.out _ _ hBelow (fun hHeld' => ?_)
              clear hK K hHeld hbV1 hBelow
              have hHeld := hHeld'
              clear hHeld'
              (repeat (first | (refine wpTree.take (v := undef) (Or.inr ⟨by rfl, rfl⟩) ?_; simp only [Act.put, List.setIfInBounds_toArray, List.set_cons_zero, List.set_cons_succ]) | (refine wpTree.take (v := .agg (vl ?_).toArray) (yieldsIf_load_mid rfl 25 _ rfl _ _ rfl (vl _) _ ?_ Try.underlying25 rfl (vinfoL _)) ?_; rotate_left; (focus (intro _ hS; refine range_next hS ?_; assumption)); simp only [Act.put, List.setIfInBounds_toArray, List.set_cons_zero, List.set_cons_succ]) | (refine wpTree.take (v := .agg (Lab.cells ?_).toArray) (yieldsIf_load_mid rfl 27 _ rfl _ _ rfl (Lab.cells _) _ ?_ Try.underlying27 rfl (linfo _)) ?_; rotate_left; (focus (intro _ hS; refine range_next hS ?_; assumption)); simp only [Act.put, List.setIfInBounds_toArray, List.set_cons_zero, List.set_cons_succ]) | (refine wpTree.take (v := ?_) (Or.inl ⟨by rfl, ?_⟩) ?_; rotate_left; (focus (intro _ hS; (try dsimp only at hS); go_split_ands; (try subst hS); go_simp; (try (with_reducible rfl)); done)); simp only [Act.put, List.setIfInBounds_toArray, List.set_cons_zero, List.set_cons_succ])))
              refine wpTree.one (fun K hK => ?_)
              go_simp
              go_at_call 16
              refine (HAB.out _).mono ?_
              rintro e V2 ⟨rfl, hbV2⟩
              have hBelow := Below.trans hHeld (hbV2.mono (Below.size hHeld))
              refine hK.out _ _ hBelow (fun hHeld' => ?_)
              clear hK K hHeld hbV2 hBelow
              have hHeld := hHeld'
              clear hHeld'
              (repeat (first | (refine wpTree.take (v := undef) (Or.inr ⟨by rfl, rfl⟩) ?_; simp only [Act.put, List.setIfInBounds_toArray, List.set_cons_zero, List.set_cons_succ]) | (refine wpTree.take (v := .agg (vl ?_).toArray) (yieldsIf_load_mid rfl 25 _ rfl _ _ rfl (vl _) _ ?_ Try.underlying25 rfl (vinfoL _)) ?_; rotate_left; (focus (intro _ hS; refine range_next hS ?_; assumption)); simp only [Act.put, List.setIfInBounds_toArray, List.set_cons_zero, List.set_cons_succ]) | (refine wpTree.take (v := .agg (Lab.cells ?_).toArray) (yieldsIf_load_mid rfl 27 _ rfl _ _ rfl (Lab.cells _) _ ?_ Try.underlying27 rfl (linfo _)) ?_; rotate_left; (focus (intro _ hS; refine range_next hS ?_; assumption)); simp only [Act.put, List.setIfInBounds_toArray, List.set_cons_zero, List.set_cons_succ]) | (refine wpTree.take (v := ?_) (Or.inl ⟨by rfl, ?_⟩) ?_; rotate_left; (focus (intro _ hS; (try dsimp only at hS); go_split_ands; (try subst hS); go_simp; (try (with_reducible rfl)); done)); simp only [Act.put, List.setIfInBounds_toArray, List.set_cons_zero, List.set_cons_succ])))
              refine wpTree.one (fun K hK => ?_)
              go_simp
              go_at_call 16
              refine (HBC.out _).mono ?_
              rintro e V3 ⟨rfl, hbV3⟩
              have hBelow := Below.trans hHeld (hbV3.mono (Below.size hHeld))
              refine hK.out _ _ hBelow (fun hHeld' => ?_)
              clear hK K hHeld hbV3 hBelow
              have hHeld := hHeld'
              clear hHeld'
              (repeat (first | (refine wpTree.take (v := undef) (Or.inr ⟨by rfl, rfl⟩) ?_; simp only [Act.put, List.setIfInBounds_toArray, List.set_cons_zero, List.set_cons_succ]) | (refine wpTree.take (v := .agg (vl ?_).toArray) (yieldsIf_load_mid rfl 25 _ rfl _ _ rfl (vl _) _ ?_ Try.underlying25 rfl (vinfoL _)) ?_; rotate_left; (focus (intro _ hS; refine range_next hS ?_; assumption)); simp only [Act.put, List.setIfInBounds_toArray, List.set_cons_zero, List.set_cons_succ]) | (refine wpTree.take (v := .agg (Lab.cells ?_).toArray) (yieldsIf_load_mid rfl 27 _ rfl _ _ rfl (Lab.cells _) _ ?_ Try.underlying27 rfl (linfo _)) ?_; rotate_left; (focus (intro _ hS; refine range_next hS ?_; assumption)); simp only [Act.put, List.setIfInBounds_toArray, List.set_cons_zero, List.set_cons_succ]) | (refine wpTree.take (v := ?_) (Or.inl ⟨by rfl, ?_⟩) ?_; rotate_left; (focus (intro _ hS; (try dsimp only at hS); go_split_ands; (try subst hS); go_simp; (try (with_reducible rfl)); done)); simp only [Act.put, List.setIfInBounds_toArray, List.set_cons_zero, List.set_cons_succ])))
              refine wpTree.one (fun K hK => ?_)
              go_simp
              go_at_call 16
              refine (HAC.out _).mono ?_
              rintro e V4 ⟨rfl, hbV4⟩
              have hBelow := Below.trans hHeld (hbV4.mono (Below.size hHeld))
              refine hK.out _ _ hBelow (fun hHeld' => ?_)
              clear hK K hHeld hbV4 hBelow
              have hHeld := hHeld'
              clear hHeld'
              (repeat (first | (refine wpTree.take (v := undef) (Or.inr ⟨by rfl, rfl⟩) ?_; simp only [Act.put, List.setIfInBounds_toArray, List.set_cons_zero, List.set_cons_succ]) | (refine wpTree.take (v := .agg (vl ?_).toArray) (yieldsIf_load_mid rfl 25 _ rfl _ _ rfl (vl _) _ ?_ Try.underlying25 rfl (vinfoL _)) ?_; rotate_left; (focus (intro _ hS; refine range_next hS ?_; assumption)); simp only [Act.put, List.setIfInBounds_toArray, List.set_cons_zero, List.set_cons_succ]) | (refine wpTree.take (v := .agg (Lab.cells ?_).toArray) (yieldsIf_load_mid rfl 27 _ rfl _ _ rfl (Lab.cells _) _ ?_ Try.underlying27 rfl (linfo _)) ?_; rotate_left; (focus (intro _ hS; refine range_next hS ?_; assumption)); simp only [Act.put, List.setIfInBounds_toArray, List.set_cons_zero, List.set_cons_succ]) | (refine wpTree.take (v := ?_) (Or.inl ⟨by rfl, ?_⟩) ?_; rotate_left; (focus (intro _ hS; (try dsimp only at hS); go_split_ands; (try subst hS); go_simp; (try (with_reducible rfl)); done)); simp only [Act.put, List.setIfInBounds_toArray, List.set_cons_zero, List.set_cons_succ])))
              (repeat (first | (refine wpTree.take (v := undef) (Or.inr ⟨by rfl, rfl⟩) ?_; simp only [Act.put, List.setIfInBounds_toArray, List.set_cons_zero, List.set_cons_succ]) | (refine wpTree.take (v := .agg (vl ?_).toArray) (yieldsIf_load_mid rfl 25 _ rfl _ _ rfl (vl _) _ ?_ Try.underlying25 rfl (vinfoL _)) ?_; rotate_left; (focus (intro _ hS; refine range_next hS ?_; assumption)); simp only [Act.put, List.setIfInBounds_toArray, List.set_cons_zero, List.set_cons_succ]) | (refine wpTree.take (v := .agg (Lab.cells ?_).toArray) (yieldsIf_load_mid rfl 27 _ rfl _ _ rfl (Lab.cells _) _ ?_ Try.underlying27 rfl (linfo _)) ?_; rotate_left; (focus (intro _ hS; refine range_next hS ?_; assumption)); simp only [Act.put, List.setIfInBounds_toArray, List.set_cons_zero, List.set_cons_succ]) | (refine wpTree.take (v := ?_) (Or.inl ⟨by rfl, ?_⟩) ?_; rotate_left; (focus (intro _ hS; (try dsimp only at hS); go_split_ands; (try subst hS); go_simp; (try (with_reducible rfl)); done)); simp only [Act.put, List.setIfInBounds_toArray, List.set_cons_zero, List.set_cons_succ])))
              refine wpTree.one (fun K hK => ?_)
              go_simp
              go_at_call 15
              refine (HP.out _).mono ?_
              rintro e W8 ⟨rfl, hbW8⟩
              have hBelow := Below.trans hHeld (hbW8.mono (Below.size hHeld))
              refine hK.out _ _ hBelow (fun hHeld' => ?_)
              clear hK K hHeld hbW8 hBelow
              have hHeld := hHeld'
              clear hHeld'
              (repeat (first | (refine wpTree.take (v := undef) (Or.inr ⟨by rfl, rfl⟩) ?_; simp only [Act.put, List.setIfInBounds_toArray, List.set_cons_zero, List.set_cons_succ]) | (refine wpTree.take (v := .agg (vl ?_).toArray) (yieldsIf_load_mid rfl 25 _ rfl _ _ rfl (vl _) _ ?_ Try.underlying25 rfl (vinfoL _)) ?_; rotate_left; (focus (intro _ hS; refine range_next hS ?_; assumption)); simp only [Act.put, List.setIfInBounds_toArray, List.set_cons_zero, List.set_cons_succ]) | (refine wpTree.take (v := .agg (Lab.cells ?_).toArray) (yieldsIf_load_mid rfl 27 _ rfl _ _ rfl (Lab.cells _) _ ?_ Try.underlying27 rfl (linfo _)) ?_; rotate_left; (focus (intro _ hS; refine range_next hS ?_; assumption)); simp only [Act.put, List.setIfInBounds_toArray, List.set_cons_zero, List.set_cons_succ]) | (refine wpTree.take (v := ?_) (Or.inl ⟨by rfl, ?_⟩) ?_; rotate_left; (focus (intro _ hS; (try dsimp only at hS); go_split_ands; (try subst hS); go_simp; (try (with_reducible rfl)); done)); simp only [Act.put, List.setIfInBounds_toArray, List.set_cons_zero, List.set_cons_succ])))
              refine wpTree.one (fun K hK => ?_)
              go_simp
              go_at_call 14
              refine (HPC.out _).mono ?_
              rintro e W9 ⟨rfl, hbW9⟩
              have hBelow := Below.trans hHeld (hbW9.mono (Below.size hHeld))
              refine hK.out _ _ hBelow (fun hHeld' => ?_)
              clear hK K hHeld hbW9 hBelow
              have hHeld := hHeld'
              clear hHeld'
              (repeat (first | (refine wpTree.take (v := undef) (Or.inr ⟨by rfl, rfl⟩) ?_; simp only [Act.put, List.setIfInBounds_toArray, List.set_cons_zero, List.set_cons_succ]) | (refine wpTree.take (v := .agg (vl ?_).toArray) (yieldsIf_load_mid rfl 25 _ rfl _ _ rfl (vl _) _ ?_ Try.underlying25 rfl (vinfoL _)) ?_; rotate_left; (focus (intro _ hS; refine range_next hS ?_; assumption)); simp only [Act.put, List.setIfInBounds_toArray, List.set_cons_zero, List.set_cons_succ]) | (refine wpTree.take (v := .agg (Lab.cells ?_).toArray) (yieldsIf_load_mid rfl 27 _ rfl _ _ rfl (Lab.cells _) _ ?_ Try.underlying27 rfl (linfo _)) ?_; rotate_left; (focus (intro _ hS; refine range_next hS ?_; assumption)); simp only [Act.put, List.setIfInBounds_toArray, List.set_cons_zero, List.set_cons_succ]) | (refine wpTree.take (v := ?_) (Or.inl ⟨by rfl, ?_⟩) ?_; rotate_left; (focus (intro _ hS; (try dsimp only at hS); go_split_ands; (try subst hS); go_simp; (try (with_reducible rfl)); done)); simp only [Act.put, List.setIfInBounds_toArray, List.set_cons_zero, List.set_cons_succ])))
              refine wpTree.one (fun K hK => ?_)
              go_simp
              go_at_call 15
              refine (HP.out _).mono ?_
              rintro e W10 ⟨rfl, hbW10⟩
              have hBelow := Below.trans hHeld (hbW10.mono (Below.size hHeld))
              refine hK.out _ _ hBelow (fun hHeld' => ?_)
              clear hK K hHeld hbW10 hBelow
              have hHeld := hHeld'
              clear hHeld'
              (repeat (first | (refine wpTree.take (v := undef) (Or.inr ⟨by rfl, rfl⟩) ?_; simp only [Act.put, List.setIfInBounds_toArray, List.set_cons_zero, List.set_cons_succ]) | (refine wpTree.take (v := .agg (vl ?_).toArray) (yieldsIf_load_mid rfl 25 _ rfl _ _ rfl (vl _) _ ?_ Try.underlying25 rfl (vinfoL _)) ?_; rotate_left; (focus (intro _ hS; refine range_next hS ?_; assumption)); simp only [Act.put, List.setIfInBounds_toArray, List.set_cons_zero, List.set_cons_succ]) | (refine wpTree.take (v := .agg (Lab.cells ?_).toArray) (yieldsIf_load_mid rfl 27 _ rfl _ _ rfl (Lab.cells _) _ ?_ Try.underlying27 rfl (linfo _)) ?_; rotate_left; (focus (intro _ hS; refine range_next hS ?_; assumption)); simp only [Act.put, List.setIfInBounds_toArray, List.set_cons_zero, List.set_cons_succ]) | (refine wpTree.take (v := ?_) (Or.inl ⟨by rfl, ?_⟩) ?_; rotate_left; (focus (intro _ hS; (try dsimp only at hS); go_split_ands; (try subst hS); go_simp; (try (with_reducible rfl)); done)); simp only [Act.put, List.setIfInBounds_toArray, List.set_cons_zero, List.set_cons_succ])))
              refine wpTree.one (fun K hK => ?_)
              go_simp
              go_at_call 18
              refine (HDT.out _).mono ?_
              rintro e W11 ⟨rfl, hbW11⟩
              have hBelow := Below.trans hHeld (hbW11.mono (Below.size hHeld))
              refine hK.out _ _ hBelow (fun hHeld' => ?_)
              clear hK K hHeld hbW11 hBelow
              have hHeld := hHeld'
              clear hHeld'
              (repeat (first | (refine wpTree.take (v := undef) (Or.inr ⟨by rfl, rfl⟩) ?_; simp only [Act.put, List.setIfInBounds_toArray, List.set_cons_zero, List.set_cons_succ]) | (refine wpTree.take (v := .agg (vl ?_).toArray) (yieldsIf_load_mid rfl 25 _ rfl _ _ rfl (vl _) _ ?_ Try.underlying25 rfl (vinfoL _)) ?_; rotate_left; (focus (intro _ hS; refine range_next hS ?_; assumption)); simp only [Act.put, List.setIfInBounds_toArray, List.set_cons_zero, List.set_cons_succ]) | (refine wpTree.take (v := .agg (Lab.cells ?_).toArray) (yieldsIf_load_mid rfl 27 _ rfl _ _ rfl (Lab.cells _) _ ?_ Try.underlying27 rfl (linfo _)) ?_; rotate_left; (focus (intro _ hS; refine range_next hS ?_; assumption)); simp only [Act.put, List.setIfInBounds_toArray, List.set_cons_zero, List.set_cons_succ]) | (refine wpTree.take (v := ?_) (Or.inl ⟨by rfl, ?_⟩) ?_; rotate_left; (focus (intro _ hS; (try dsimp only at hS); go_split_ands; (try subst hS); go_simp; (try (with_reducible rfl)); done)); simp only [Act.put, List.setIfInBounds_toArray, List.set_cons_zero, List.set_cons_succ])))
              refine wpTree.one (fun K hK => ?_)
              go_simp
              go_at_call 17
              refine (HPH.out _).mono ?_
              rintro e W12 ⟨rfl, hbW12⟩
              have hBelow := Below.trans hHeld (hbW12.mono (Below.size hHeld))
              refine hK.out _ _ hBelow (fun hHeld' => ?_)
              clear hK K hHeld hbW12 hBelow
              have hHeld := hHeld'
              clear hHeld'
              (repeat (first | (refine wpTree.take (v := undef) (Or.inr ⟨by rfl, rfl⟩) ?_; simp only [Act.put, List.setIfInBounds_toArray, List.set_cons_zero, List.set_cons_succ]) | (refine wpTree.take (v := .agg (vl ?_).toArray) (yieldsIf_load_mid rfl 25 _ rfl _ _ rfl (vl _) _ ?_ Try.underlying25 rfl (vinfoL _)) ?_; rotate_left; (focus (intro _ hS; refine range_next hS ?_; assumption)); simp only [Act.put, List.setIfInBounds_toArray, List.set_cons_zero, List.set_cons_succ]) | (refine wpTree.take (v := .agg (Lab.cells ?_).toArray) (yieldsIf_load_mid rfl 27 _ rfl _ _ rfl (Lab.cells _) _ ?_ Try.underlying27 rfl (linfo _)) ?_; rotate_left; (focus (intro _ hS; refine range_next hS ?_; assumption)); simp only [Act.put, List.setIfInBounds_toArray, List.set_cons_zero, List.set_cons_succ]) | (refine wpTree.take (v := ?_) (Or.inl ⟨by rfl, ?_⟩) ?_; rotate_left; (focus (intro _ hS; (try dsimp only at hS); go_split_ands; (try subst hS); go_simp; (try (with_reducible rfl)); done)); simp only [Act.put, List.setIfInBounds_toArray, List.set_cons_zero, List.set_cons_succ])))
              refine wpTree.one (fun K hK => ?_)
              go_simp
              go_at_call 16
              refine (HSF.out _).mono ?_
              rintro e W13 ⟨rfl, hbW13⟩
              have hBelow := Below.trans hHeld (hbW13.mono (Below.size hHeld))
              refine hK.out _ _ hBelow (fun hHeld' => ?_)
              clear hK K hHeld hbW13 hBelow
              have hHeld := hHeld'
              clear hHeld'
              (repeat (first | (refine wpTree.take (v := undef) (Or.inr ⟨by rfl, rfl⟩) ?_; simp only [Act.put, List.setIfInBounds_toArray, List.set_cons_zero, List.set_cons_succ]) | (refine wpTree.take (v := .agg (vl ?_).toArray) (yieldsIf_load_mid rfl 25 _ rfl _ _ rfl (vl _) _ ?_ Try.underlying25 rfl (vinfoL _)) ?_; rotate_left; (focus (intro _ hS; refine range_next hS ?_; assumption)); simp only [Act.put, List.setIfInBounds_toArray, List.set_cons_zero, List.set_cons_succ]) | (refine wpTree.take (v := .agg (Lab.cells ?_).toArray) (yieldsIf_load_mid rfl 27 _ rfl _ _ rfl (Lab.cells _) _ ?_ Try.underlying27 rfl (linfo _)) ?_; rotate_left; (focus (intro _ hS; refine range_next hS ?_; assumption)); simp only [Act.put, List.setIfInBounds_toArray, List.set_cons_zero, List.set_cons_succ]) | (refine wpTree.take (v := ?_) (Or.inl ⟨by rfl, ?_⟩) ?_; rotate_left; (focus (intro _ hS; (try dsimp only at hS); go_split_ands; (try subst hS); go_simp; (try (with_reducible rfl)); done)); simp only [Act.put, List.setIfInBounds_toArray, List.set_cons_zero, List.set_cons_succ])))
              refine wpTree.done ?_
              have HF := Lib.hid (H6.out.2.2.2.trans (hHeld.mono H6.out.2.2.2.size))
              clear hHeld
              go_wp2_with fail
              go_ret
              exact ⟨rfl, HF.out⟩

set_option maxRecDepth 100000 in
theorem labelorder_lifted (os : Os) (started : os.Started) (H : Type) (enc : TypeId × Value → H) :
    ReturnsInHanded {} Try.checked os 4 .any (Rows.labelOrderSpec.pre6 enc Try.prog Try.f4 Rows.labelOrderRow.domain false) (Rows.labelOrderSpec.post enc Try.prog Try.f4 false true false false) := by
  refine law_lift (C := Try.checked) own_knob started (by kernel_rfl) Try.func4 rfl Try.underlying4 laid_out (by kernel_rfl) rfl ?_
    (ChangeSpec.witness6 (enc := enc) (C := Try.checked) false ⟨#[], #[.agg #[.int .u64 0, .int .i64 0, .int .u32 0, .int .i64 0, .int .i64 0, .int .u32 0, .int .u32 0, .int .u32 0, .int .u32 0, .int .u32 0, .int .u32 0, .int .u32 0, .int .u32 0, .int .u32 0, .int .u32 0, .int .u32 0, .int .u32 0], .agg #[.int .u64 0, .int .i64 0, .int .u32 0, .int .i64 0, .int .i64 0, .int .u32 0, .int .u32 0, .int .u32 0, .int .u32 0, .int .u32 0, .int .u32 0, .int .u32 0, .int .u32 0, .int .u32 0, .int .u32 0, .int .u32 0, .int .u32 0], .agg #[.int .u64 0, .int .i64 0, .int .u32 0, .int .i64 0, .int .i64 0, .int .u32 0, .int .u32 0, .int .u32 0, .int .u32 0, .int .u32 0, .int .u32 0, .int .u32 0, .int .u32 0, .int .u32 0, .int .u32 0, .int .u32 0, .int .u32 0]], []⟩ 8 (by kernel_rfl) (by kernel_rfl) (by kernel_rfl) (by kernel_rfl)) ?_
  · intro ds hds
    match ds, hds with
    | [_, _, _], _ => rfl
  intro W base args ds ps hval hA hlt hsz
  rw [Try.params4] at hA hval
  obtain ⟨v0, vs0, d0, ds0, p0, q0, hargs, rfl, rfl, h0, r0⟩ := trodAll_cons hA
  obtain ⟨v1, vs1, d1, ds1, p1, q1, rfl, rfl, rfl, h1, r1⟩ := trodAll_cons r0
  obtain ⟨v2, vs2, d2, ds2, p2, q2, rfl, rfl, rfl, h2, r2⟩ := trodAll_cons r1
  obtain ⟨rfl, rfl, rfl⟩ := trodAll_nil r2
  obtain rfl : args = #[v0, v1, v2] := by cases args; simp_all
  obtain ⟨a, rfl, _⟩ := open_lab (hval 0 27 v0 rfl rfl) h0
  obtain ⟨b, rfl, _⟩ := open_lab (hval 1 27 v1 rfl rfl) h1
  obtain ⟨c, rfl, _⟩ := open_lab (hval 2 27 v2 rfl rfl) h2
  exact labelorder_walk a b c W

theorem labelorder_holds : Rows.LabelOrderSaid :=
  OpenClaim.holds_of_wide 4 Try.f4 rfl rfl rfl rfl rfl rfl rfl ⟨rfl, rfl, rfl, rfl, rfl⟩ rfl rfl rfl rfl rfl (by kernel_rfl) Try.func4 (by kernel_rfl)
    (of_decide_eq_true (by kernel_rfl)) (by unfold Func.isWrapper; first | (rw [if_pos (by decide +kernel)]; kernel_rfl) | (rw [if_neg (by decide +kernel)]; exact ⟨rfl, rfl⟩))
    (fun os started H enc _ => labelorder_lifted os started H enc)


end Go.Proofs.Ytpimhohballafaa

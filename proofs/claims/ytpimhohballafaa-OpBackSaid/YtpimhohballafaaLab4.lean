/-
label.isNext, Past, Before.
label.Before.
label.Right.
-/
import Derived.Test.YtpimhohballafaaEqs
namespace Go.Proofs.Ytpimhohballafaa
open Go.RowKit

theorem range_next {W W' : World} {b o : Nat} {cs : List Value} (hb : Below W.heap.size W W') (h : W.rangeAt b o cs) : W'.rangeAt b o cs := fun j v hv => by
  have h1 := h j v hv
  exact (hb.cell (World.block_lt_of_cell? _ _ h1)).trans h1
theorem next_yes {l : Lab} (h : nextB l = true) : nextD l.f l.nd = (l.nd, l.n, 0) := by
  unfold nextB at h
  simp only [Bool.and_eq_true, decide_eq_true_eq] at h
  unfold nextD
  rw [if_pos h.1.1, if_pos h.1.2, h.2]
theorem next_no {l : Lab} (h : nextB l = false) : (nextD l.f l.nd).2.2 = 5 ∨ (nextD l.f l.nd).2.2 = 11 ∨ ∃ k : Nat, nextD l.f l.nd = (l.nd, k, 0) ∧ k ≠ l.n := by
  unfold nextD
  by_cases h1 : nodeB l.nd = true
  · rw [if_pos h1]
    by_cases h2 : getN l.f l.nd < 1048576
    · rw [if_pos h2]
      refine Or.inr (Or.inr ⟨_, rfl, fun e => ?_⟩)
      unfold nextB at h
      rw [h1, decide_eq_true h2, decide_eq_true e.symm] at h
      cases h
    · rw [if_neg h2]; exact Or.inl rfl
  · rw [if_neg h1]; exact Or.inr (Or.inl rfl)

set_option maxRecDepth 20000 in
set_option maxHeartbeats 4000000 in
theorem isnext_bad (l : Lab) (W : World) (z : Int) (k : Nat) (er : Int) (hN : nextD l.f l.nd = (z, k, er)) (he : er = 5 ∨ er = 11) :
    Calls Try.prog 47 #[.agg l.cells.toArray] W fun e W' => e = .returned (.bool false) ∧ Below W.heap.size W W' := by
  rcases he with rfl | rfl
  all_goals
    have bA := Blk.new W 27 l.cells.toArray
    have hsz : (W.alloc (.cells l.cells.toArray 27)).heap.size = W.heap.size + 1 := by simp
    have hB0 := Lib.hid ((Below.refl W.heap.size W).alloc (Nat.le_refl _) (.cells l.cells.toArray 27))
    have hLA := lab_all bA
    obtain ⟨ra, va, a0, a1, a2, a3, a4⟩ := hLA
    have HC := Lib.hid (fun W1 => next_any l.f l.nd W1)
    rw [hN] at HC
    clear hN ra
    go_enter Try.func47, Try.ntmps47
    go_wp2_with (first | (refine wpList_load_mid rfl 25 _ rfl _ _ rfl (vl ?_) _ ?_ Try.underlying25 rfl (vinfoL _) ?_; rotate_left; (focus assumption)) | (go_at_call 83; refine (HC.out _).mono ?_; rintro e W1 ⟨rfl, hb⟩; have HB1 := Lib.hid (hB0.out.trans (hb.mono hB0.out.size)); have BA1 := Lib.hid (bA.next hb); clear hb bA))
    refine wp_region_tree (S := (fun _ => True)) (.take 0 (.take 1 (.take 2 (.take 3 (.take 4 (.take 5 (.take 6 (.take 7 (.take 8 .nil))))))))) 9999 (by kernel_rfl) (by kernel_rfl) (by kernel_rfl) (by kernel_rfl) (by kernel_rfl) (fun _ _ d _ _ h => by cases d <;> exact h) ?_ (fun hHeld => ?_); (focus (trivial)); simp only [Tree.map, List.getElem?_toArray, List.getElem?_cons_zero, List.getElem?_cons_succ]
    (repeat (first | (refine wpTree.take (v := undef) (Or.inr ⟨by rfl, rfl⟩) ?_; simp only [Act.put, List.setIfInBounds_toArray, List.set_cons_zero, List.set_cons_succ]) | (refine wpTree.take (v := ?_) (Or.inl ⟨by rfl, ?_⟩) ?_; rotate_left; (focus (intro _ hS; (try dsimp only at hS); go_split_ands; (try subst hS); go_simp; (try (with_reducible rfl)); done)); simp only [Act.put, List.setIfInBounds_toArray, List.set_cons_zero, List.set_cons_succ])))
    refine wpTree.done ?_
    go_wp2_with fail
    go_ret
    exact ⟨rfl, (HB1.out.alloc HB1.out.size _).drew⟩

set_option maxRecDepth 20000 in
set_option maxHeartbeats 4000000 in
theorem isnext_good (l : Lab) (W : World) (k : Nat) (bo : Bool) (hN : nextD l.f l.nd = (l.nd, k, 0)) (he : decide ((k : Int) = (l.n : Nat)) = bo) :
    Calls Try.prog 47 #[.agg l.cells.toArray] W fun e W' => e = .returned (.bool bo) ∧ Below W.heap.size W W' := by
  have bA := Blk.new W 27 l.cells.toArray
  have hsz : (W.alloc (.cells l.cells.toArray 27)).heap.size = W.heap.size + 1 := by simp
  have hB0 := Lib.hid ((Below.refl W.heap.size W).alloc (Nat.le_refl _) (.cells l.cells.toArray 27))
  have hLA := lab_all bA
  obtain ⟨ra, va, a0, a1, a2, a3, a4⟩ := hLA
  have HC := Lib.hid (fun W1 => next_any l.f l.nd W1)
  rw [hN] at HC
  clear hN ra
  go_enter Try.func47, Try.ntmps47
  go_wp2_with (first | (refine wpList_load_mid rfl 25 _ rfl _ _ rfl (vl ?_) _ ?_ Try.underlying25 rfl (vinfoL _) ?_; rotate_left; (focus assumption)) | (go_at_call 83; refine (HC.out _).mono ?_; rintro e W1 ⟨rfl, hb⟩; have HB1 := Lib.hid (hB0.out.trans (hb.mono hB0.out.size)); have BA1 := Lib.hid (bA.next hb); clear hb bA))
  have hD := Blk.new W1 42 #[.int .i64 l.nd, .int .u32 (k : Nat)]
  have hR := (BA1.out.alloc (.cells #[.int .i64 l.nd, .int .u32 (k : Nat)] 42)).range
  have d0 := hD.cell 0
  have d1 := hD.cell 1
  have hq : ∀ w, (Op.equalIn 10000 42 (.agg #[.int .i64 l.nd, .int .u32 (k : Nat)]) (.agg #[.int .i64 l.nd, .int .u32 (l.n : Nat)])).run Try.prog w = .ok bo w := fun w => by
    rw [eq_dot, ← he, beq_self_eq_true, Bool.true_and]; rfl
  clear he
  refine wp_region_tree (S := (fun W' => W'.rangeAt W.heap.size 0 l.cells ∧ W'.cell? ⟨W1.heap.size, 0, none⟩ = some (.int .i64 l.nd) ∧ W'.cell? ⟨W1.heap.size, 1, none⟩ = some (.int .u32 (k : Nat)))) (.take 0 (.take 1 (.take 2 (.take 3 (.take 4 (.one 5 (.take 6 (.take 7 (.take 8 .nil))))))))) 9999 (by kernel_rfl) (by kernel_rfl) (by kernel_rfl) (by kernel_rfl) (by kernel_rfl) (fun _ _ d _ _ h => by cases d <;> exact h) ?_ (fun hHeld => ?_); (focus (exact ⟨hR, d0, d1⟩)); simp only [Tree.map, List.getElem?_toArray, List.getElem?_cons_zero, List.getElem?_cons_succ]
  (repeat (first | (refine wpTree.take (v := undef) (Or.inr ⟨by rfl, rfl⟩) ?_; simp only [Act.put, List.setIfInBounds_toArray, List.set_cons_zero, List.set_cons_succ]) | (refine wpTree.take (v := .agg (Lab.cells ?_).toArray) (yieldsIf_load_mid rfl 27 _ rfl _ _ rfl (Lab.cells _) _ ?_ Try.underlying27 rfl (linfo _)) ?_; rotate_left; (focus (intro _ hS; (try dsimp only at hS); go_split_ands; assumption)); simp only [Act.put, List.setIfInBounds_toArray, List.set_cons_zero, List.set_cons_succ]) | (refine wpTree.take (v := ?_) (Or.inl ⟨by rfl, ?_⟩) ?_; rotate_left; (focus (intro _ hS; (try dsimp only at hS); go_split_ands; (try subst hS); go_simp; (try (with_reducible rfl)); done)); simp only [Act.put, List.setIfInBounds_toArray, List.set_cons_zero, List.set_cons_succ])))
  refine wpTree.one (fun K hK => ?_)
  go_simp
  go_at_call 18
  refine (dot_any l _).mono ?_
  rintro e W2 ⟨rfl, hb2⟩
  refine hK.out _ _ ⟨range_next hb2 hHeld.1, cell_next hb2 hHeld.2.1, cell_next hb2 hHeld.2.2⟩ (fun _ => ?_)
  clear hK K
  (repeat (first | (refine wpTree.take (v := undef) (Or.inr ⟨by rfl, rfl⟩) ?_; simp only [Act.put, List.setIfInBounds_toArray, List.set_cons_zero, List.set_cons_succ]) | (refine wpTree.take (v := ?_) (Or.inl ⟨by rfl, ?_⟩) ?_; rotate_left; (focus (intro _ hS; (try dsimp only at hS); go_split_ands; (try subst hS); go_simp; (try (with_reducible rfl)); done)); simp only [Act.put, List.setIfInBounds_toArray, List.set_cons_zero, List.set_cons_succ])))
  refine wpTree.done ?_
  have HF := Lib.hid ((HB1.out.alloc HB1.out.size (.cells #[.int .i64 l.nd, .int .u32 (k : Nat)] 42)).drew.trans (hb2.mono (by simp; exact Nat.le_succ_of_le HB1.out.size)))
  clear hb2 hHeld
  go_wp2_with fail
  go_ret
  exact ⟨by rfl, HF.out⟩
theorem isnext_any (l : Lab) (W : World) : Calls Try.prog 47 #[.agg l.cells.toArray] W fun e W' => e = .returned (.bool (nextB l)) ∧ Below W.heap.size W W' := by
  cases h : nextB l with
  | true => exact isnext_good l W l.n true (next_yes h) (decide_eq_true rfl)
  | false =>
    rcases next_no h with h1 | h1 | ⟨k, h1, h2⟩
    · exact isnext_bad l W _ _ _ rfl (Or.inl h1)
    · exact isnext_bad l W _ _ _ rfl (Or.inr h1)
    · exact isnext_good l W k false h1 (decide_eq_false (by omega))

/-- A label's past. -/
def pastF (l : Lab) : Nat → Nat := withF l.f l.nd l.n
set_option maxRecDepth 20000 in
set_option maxHeartbeats 4000000 in
theorem past_any (l : Lab) (W : World) : Calls Try.prog 15 #[.agg l.cells.toArray] W fun e W' => e = .returned (.agg (vl (pastF l)).toArray) ∧ Below W.heap.size W W' := by
  have bA := Blk.new W 27 l.cells.toArray
  have hsz : (W.alloc (.cells l.cells.toArray 27)).heap.size = W.heap.size + 1 := by simp
  have hB0 := Lib.hid ((Below.refl W.heap.size W).alloc (Nat.le_refl _) (.cells l.cells.toArray 27))
  have hLA := lab_all bA
  obtain ⟨ra, va, a0, a1, a2, a3, a4⟩ := hLA
  have bz := Blk.new (W.alloc (.cells l.cells.toArray 27)) 25 #[.int .u32 0, .int .u32 0, .int .u32 0, .int .u32 0, .int .u32 0, .int .u32 0, .int .u32 0, .int .u32 0, .int .u32 0, .int .u32 0, .int .u32 0, .int .u32 0]
  rw [hsz] at bz
  have ra' := World.rangeAt_alloc ra (.cells #[.int .u32 0, .int .u32 0, .int .u32 0, .int .u32 0, .int .u32 0, .int .u32 0, .int .u32 0, .int .u32 0, .int .u32 0, .int .u32 0, .int .u32 0, .int .u32 0] 25)
  have va' := World.rangeAt_alloc va (.cells #[.int .u32 0, .int .u32 0, .int .u32 0, .int .u32 0, .int .u32 0, .int .u32 0, .int .u32 0, .int .u32 0, .int .u32 0, .int .u32 0, .int .u32 0, .int .u32 0] 25)
  have hB1 := Lib.hid (hB0.out.alloc hB0.out.size (.cells #[.int .u32 0, .int .u32 0, .int .u32 0, .int .u32 0, .int .u32 0, .int .u32 0, .int .u32 0, .int .u32 0, .int .u32 0, .int .u32 0, .int .u32 0, .int .u32 0] 25))
  clear ra va bA a0 a1 a2 a3 a4
  go_enter Try.func15, Try.ntmps15
  go_wp2_with fail
  refine wp_region_tree (S := (fun W' => W'.rangeAt W.heap.size 0 l.cells ∧ W'.rangeAt W.heap.size 5 (vl l.f) ∧ ∃ cs, Blk W' (W.heap.size + 1) 25 cs ∧ cs.size = 12)) (.take 0 (.take 1 (.take 2 (.one 3 (.one 4 (.one 5 .nil)))))) 9999 (by kernel_rfl) (by kernel_rfl) (by kernel_rfl) (by kernel_rfl) (by kernel_rfl) (fun _ _ d _ _ h => by cases d <;> exact h) ?_ (fun hHeld => ?_); (focus (exact ⟨ra', va', _, bz, rfl⟩)); simp only [Tree.map, List.getElem?_toArray, List.getElem?_cons_zero, List.getElem?_cons_succ]
  (repeat (first | (refine wpTree.take (v := undef) (Or.inr ⟨by rfl, rfl⟩) ?_; simp only [Act.put, List.setIfInBounds_toArray, List.set_cons_zero, List.set_cons_succ]) | (refine wpTree.take (v := .agg (Lab.cells ?_).toArray) (yieldsIf_load_mid rfl 27 _ rfl _ _ rfl (Lab.cells _) _ ?_ Try.underlying27 rfl (linfo _)) ?_; rotate_left; (focus (intro _ hS; (try dsimp only at hS); go_split_ands; assumption)); simp only [Act.put, List.setIfInBounds_toArray, List.set_cons_zero, List.set_cons_succ]) | (refine wpTree.take (v := .agg (vl ?_).toArray) (yieldsIf_load_mid rfl 25 _ rfl _ _ rfl (vl _) _ ?_ Try.underlying25 rfl (vinfoL _)) ?_; rotate_left; (focus (intro _ hS; (try dsimp only at hS); go_split_ands; (first | assumption | exact Blk.range (by assumption)))); simp only [Act.put, List.setIfInBounds_toArray, List.set_cons_zero, List.set_cons_succ]) | (refine wpTree.take (v := ?_) (Or.inl ⟨by rfl, ?_⟩) ?_; rotate_left; (focus (intro _ hS; (try dsimp only at hS); go_split_ands; (try subst hS); go_simp; (try (with_reducible rfl)); done)); simp only [Act.put, List.setIfInBounds_toArray, List.set_cons_zero, List.set_cons_succ])))
  refine wpTree.one (fun K hK => ?_)
  go_simp
  go_at_call 18
  refine (dot_any l _).mono ?_
  rintro e W2 ⟨rfl, hb2⟩
  have hb3 := hb2.mono (show W.heap.size + 1 ≤ _ from by simp)
  refine hK.out _ _ ⟨range_next hb2 hHeld.1, range_next hb2 hHeld.2.1, hHeld.2.2.elim fun cs h => ⟨cs, h.1.next hb2, h.2⟩⟩ (fun hHeld' => ?_)
  clear hK K hHeld
  refine wpTree.one (fun K hK => ?_)
  go_simp
  go_at_call 50
  refine (with_any l.f l.nd l.n _).mono ?_
  rintro e W3 ⟨rfl, hb4⟩
  refine hK.out _ _ ⟨range_next hb4 hHeld'.1, range_next hb4 hHeld'.2.1, hHeld'.2.2.elim fun cs h => ⟨cs, h.1.next hb4, h.2⟩⟩ (fun hHeld => ?_)
  clear hK K hHeld'
  have HB3 := Lib.hid (hB1.out.drew.trans ((hb2.mono hB1.out.size).trans (hb4.mono (Nat.le_trans hB1.out.size hb2.size))))
  obtain ⟨ra3, va3, cs3, bc3, hcs3⟩ := hHeld
  clear hb2 hb3 hb4
  refine wpTree.one (fun K hK => ?_)
  refine step_store_blk (by rfl) 25 _ _ rfl _ 25 cs3 (vl (withF l.f l.nd l.n)).toArray rfl rfl bc3 (vinfo _) (hcs3.trans (vl_size _).symm) (vl_all _) ?_
  have hS3 := below_setRow (Below.refl (W.heap.size + 1) W3) (Nat.le_refl _) (vl (withF l.f l.nd l.n)).toArray
  refine hK.out _ _ ⟨fun j v hv => (hS3.cell (p := ⟨W.heap.size, 0 + j, none⟩) (Nat.lt_succ_self _)).trans (ra3 j v hv), fun j v hv => (hS3.cell (p := ⟨W.heap.size, 5 + j, none⟩) (Nat.lt_succ_self _)).trans (va3 j v hv), _, bc3.setRow _, vl_size _⟩ (fun _ => ?_)
  clear hK K ra3 va3
  refine wpTree.done ?_
  have bF := bc3.setRow (vl (withF l.f l.nd l.n)).toArray
  have HF := Lib.hid (below_setRow HB3.out (Nat.le_succ _) (vl (withF l.f l.nd l.n)).toArray)
  clear bc3 hS3
  go_wp2_with fail
  (refine bodyPost_row (t := 25) (vl (withF l.f l.nd l.n)).toArray rfl rfl rfl Try.underlying25 rfl (vinfo _) ?_ ?_; (focus ((first | assumption | ((repeat' (first | assumption | ((with_reducible refine Blk.new' ?_); (first | rfl | (simp; done))) | ((with_reducible refine Blk.newRow ?_); (first | rfl | (simp; done))) | ((with_reducible refine Blk.farRow ?_ ?_ _); rotate_left; (first | (simp; done) | (simp; omega) | omega)) | (with_reducible refine Blk.alloc ?_ _) | (with_reducible refine Blk.drew ?_) | ((with_reducible refine Blk.far ?_ ?_ _); rotate_left; (first | (simp; done) | (simp; omega) | omega)) | (with_reducible refine Blk.next' (by assumption) ?_))); done)))))
  exact ⟨rfl, HF.out⟩
end Go.Proofs.Ytpimhohballafaa
namespace Go.Proofs.Ytpimhohballafaa
open Go.RowKit

/-- Does b's event depend on a's? -/
def befB (a b : Lab) : Bool := decide (a.ca = b.ca) && hasB b.f a.nd a.n

set_option maxRecDepth 20000 in
set_option maxHeartbeats 4000000 in
theorem before_any (a b : Lab) (W : World) :
    Calls Try.prog 16 #[.agg a.cells.toArray, .agg b.cells.toArray] W fun e W' => e = .returned (.bool (befB a b)) ∧ Below W.heap.size W W' := by
  have bA := Blk.new W 27 a.cells.toArray
  have bB := Blk.new (W.alloc (.cells a.cells.toArray 27)) 27 b.cells.toArray
  have bA' := bA.alloc (.cells b.cells.toArray 27)
  have hsz : (W.alloc (.cells a.cells.toArray 27)).heap.size = W.heap.size + 1 := by simp
  rw [hsz] at bB
  have hB0 := Lib.hid ((((Below.refl W.heap.size W).alloc (Nat.le_refl _) (.cells a.cells.toArray 27)).alloc (by rw [hsz]; omega) (.cells b.cells.toArray 27)))
  have hLA := lab_all bA'
  have hLB := lab_all bB
  obtain ⟨ra, va, a0, a1, a2, a3, a4⟩ := hLA
  obtain ⟨rb, vb, b0, b1, b2, b3, b4⟩ := hLB
  have ra' := World.rangeAt_alloc (bA.range) (.cells b.cells.toArray 27)
  by_cases hc : a.ca = b.ca
  · have hF := Lib.hid (show befB a b = hasB b.f a.nd a.n by unfold befB; rw [decide_eq_true hc, Bool.true_and])
    have e1 : (a.ca == b.ca) = true := by simpa using hc
    clear ra rb va bA bB bA' a0 a1 a2 a4 b0 b1 b2 b4 hc
    go_enter Try.func16, Try.ntmps16
    go_wp2_with fail
    refine wp_region_tree (S := (fun W' => W'.cell? ⟨W.heap.size, 3, none⟩ = some (.int .i64 a.ca) ∧ W'.cell? ⟨W.heap.size + 1, 3, none⟩ = some (.int .i64 b.ca) ∧ W'.rangeAt W.heap.size 0 a.cells ∧ W'.rangeAt (W.heap.size + 1) 5 (vl b.f))) (.take 0 (.take 1 (.take 2 (.take 3 (.take 4 (.take 5 (.take 6 (.take 7 (.take 8 (.one 9 (.one 10 (.take 11 (.take 12 .nil))))))))))))) 9999 (by kernel_rfl) (by kernel_rfl) (by kernel_rfl) (by kernel_rfl) (by kernel_rfl) (fun _ _ d _ _ h => by cases d <;> exact h) ?_ (fun hHeld => ?_); (focus (exact ⟨a3, b3, ra', vb⟩)); simp only [Tree.map, List.getElem?_toArray, List.getElem?_cons_zero, List.getElem?_cons_succ]
    (repeat (first | (refine wpTree.take (v := undef) (Or.inr ⟨by rfl, rfl⟩) ?_; simp only [Act.put, List.setIfInBounds_toArray, List.set_cons_zero, List.set_cons_succ]) | (refine wpTree.take (v := .agg (Lab.cells ?_).toArray) (yieldsIf_load_mid rfl 27 _ rfl _ _ rfl (Lab.cells _) _ ?_ Try.underlying27 rfl (linfo _)) ?_; rotate_left; (focus (intro _ hS; (try dsimp only at hS); go_split_ands; assumption)); simp only [Act.put, List.setIfInBounds_toArray, List.set_cons_zero, List.set_cons_succ]) | (refine wpTree.take (v := .agg (vl ?_).toArray) (yieldsIf_load_mid rfl 25 _ rfl _ _ rfl (vl _) _ ?_ Try.underlying25 rfl (vinfoL _)) ?_; rotate_left; (focus (intro _ hS; (try dsimp only at hS); go_split_ands; (first | assumption | exact Blk.range (by assumption)))); simp only [Act.put, List.setIfInBounds_toArray, List.set_cons_zero, List.set_cons_succ]) | (refine wpTree.take (v := ?_) (Or.inl ⟨by rfl, ?_⟩) ?_; rotate_left; (focus (intro _ hS; (try dsimp only at hS); go_split_ands; (try subst hS); go_simp; (try (with_reducible rfl)); done)); simp only [Act.put, List.setIfInBounds_toArray, List.set_cons_zero, List.set_cons_succ])))
    refine wpTree.one (fun K hK => ?_)
    go_simp
    go_at_call 18
    refine (dot_any a _).mono ?_
    rintro e W2 ⟨rfl, hb2⟩
    refine hK.out _ _ ⟨cell_next hb2 hHeld.1, cell_next hb2 hHeld.2.1, range_next hb2 hHeld.2.2.1, range_next hb2 hHeld.2.2.2⟩ (fun hHeld' => ?_)
    clear hK K hHeld
    refine wpTree.one (fun K hK => ?_)
    go_simp
    go_at_call 17
    refine (has_any b.f a.nd a.n _).mono ?_
    rintro e W3 ⟨rfl, hb4⟩
    refine hK.out _ _ ⟨cell_next hb4 hHeld'.1, cell_next hb4 hHeld'.2.1, range_next hb4 hHeld'.2.2.1, range_next hb4 hHeld'.2.2.2⟩ (fun hHeld => ?_)
    clear hK K hHeld'
    (repeat (first | (refine wpTree.take (v := undef) (Or.inr ⟨by rfl, rfl⟩) ?_; simp only [Act.put, List.setIfInBounds_toArray, List.set_cons_zero, List.set_cons_succ]) | (refine wpTree.take (v := ?_) (Or.inl ⟨by rfl, ?_⟩) ?_; rotate_left; (focus (intro _ hS; (try dsimp only at hS); go_split_ands; (try subst hS); go_simp; (try (with_reducible rfl)); done)); simp only [Act.put, List.setIfInBounds_toArray, List.set_cons_zero, List.set_cons_succ])))
    refine wpTree.done ?_
    have HB3 := Lib.hid (hB0.out.drew.trans ((hb2.mono hB0.out.size).trans (hb4.mono (Nat.le_trans hB0.out.size hb2.size))))
    clear hb2 hb4 hHeld
    go_wp2_with fail
    go_ret
    exact ⟨by rw [hF.out]; rfl, HB3.out⟩
  · have hF := Lib.hid (show befB a b = false by unfold befB; rw [decide_eq_false hc, Bool.false_and])
    have e1 : (a.ca == b.ca) = false := by simpa using hc
    clear ra rb va bA bB bA' a0 a1 a2 a4 b0 b1 b2 b4 hc
    go_enter Try.func16, Try.ntmps16
    go_wp2_with fail
    refine wp_region_tree (S := (fun W' => W'.cell? ⟨W.heap.size, 3, none⟩ = some (.int .i64 a.ca) ∧ W'.cell? ⟨W.heap.size + 1, 3, none⟩ = some (.int .i64 b.ca))) (.take 0 (.take 1 (.take 2 (.take 3 (.take 4 (.take 5 (.take 6 (.take 7 (.take 8 (.take 9 (.take 10 (.take 11 (.take 12 .nil))))))))))))) 9999 (by kernel_rfl) (by kernel_rfl) (by kernel_rfl) (by kernel_rfl) (by kernel_rfl) (fun _ _ d _ _ h => by cases d <;> exact h) ?_ (fun hHeld => ?_); (focus (exact ⟨a3, b3⟩)); simp only [Tree.map, List.getElem?_toArray, List.getElem?_cons_zero, List.getElem?_cons_succ]
    (repeat (first | (refine wpTree.take (v := undef) (Or.inr ⟨by rfl, rfl⟩) ?_; simp only [Act.put, List.setIfInBounds_toArray, List.set_cons_zero, List.set_cons_succ]) | (refine wpTree.take (v := ?_) (Or.inl ⟨by rfl, ?_⟩) ?_; rotate_left; (focus (intro _ hS; (try dsimp only at hS); go_split_ands; (try subst hS); go_simp; (try (with_reducible rfl)); done)); simp only [Act.put, List.setIfInBounds_toArray, List.set_cons_zero, List.set_cons_succ])))
    refine wpTree.done ?_
    clear hHeld
    go_wp2_with fail
    go_ret
    exact ⟨by rw [hF.out]; rfl, hB0.out.drew⟩
end Go.Proofs.Ytpimhohballafaa
namespace Go.Proofs.Ytpimhohballafaa
open Go.RowKit

def timeB (t : Nat) : Bool := decide (1 ≤ t) && decide (t ≤ 1099511627776)
def placeB (ca se : Int) : Bool := decide (1 ≤ ca) && decide (ca ≤ 12) && decide (0 ≤ se) && decide (se ≤ 12)
/-- May a label be? -/
def rightL (l : Lab) : Bool := timeB l.t && placeB l.ca l.se && nextB l && decide (maxK l.f 11 ≤ 1048576)
theorem time_cases (t : Nat) : (timeB t = true ∧ decide (1 ≤ (t : Int)) = true ∧ decide ((t : Int) ≤ 1099511627776) = true) ∨ (timeB t = false ∧ decide (1 ≤ (t : Int)) = true ∧ decide ((t : Int) ≤ 1099511627776) = false) ∨ (timeB t = false ∧ decide (1 ≤ (t : Int)) = false) := by
  unfold timeB
  by_cases h1 : 1 ≤ t
  · by_cases h2 : t ≤ 1099511627776
    · exact Or.inl ⟨by simp [h1, h2], by simp; omega, by simp; omega⟩
    · exact Or.inr (Or.inl ⟨by simp [h2], by simp; omega, by simp; omega⟩)
  · exact Or.inr (Or.inr ⟨by simp [h1], by simp; omega⟩)
theorem place_cases (ca se : Int) : (placeB ca se = true ∧ decide (1 ≤ ca) = true ∧ decide (ca ≤ 12) = true ∧ decide (0 ≤ se) = true ∧ decide (se ≤ 12) = true) ∨ (placeB ca se = false ∧ decide (1 ≤ ca) = false)
    ∨ (placeB ca se = false ∧ decide (1 ≤ ca) = true ∧ decide (ca ≤ 12) = false) ∨ (placeB ca se = false ∧ decide (1 ≤ ca) = true ∧ decide (ca ≤ 12) = true ∧ decide (0 ≤ se) = false)
    ∨ (placeB ca se = false ∧ decide (1 ≤ ca) = true ∧ decide (ca ≤ 12) = true ∧ decide (0 ≤ se) = true ∧ decide (se ≤ 12) = false) := by
  unfold placeB
  cases h1 : decide (1 ≤ ca)
  · simp
  · cases h2 : decide (ca ≤ 12)
    · simp
    · cases h3 : decide (0 ≤ se)
      · simp
      · cases h4 : decide (se ≤ 12) <;> simp

theorem wpList_load_midg {P : Program} {ops : Array Oper} {rest : List Oper} {op : Oper} {a : Act} {w : World} {Q : Exit → Act → World → Prop} (hw : Region.wanted op (yielded ops a.tmps) = true) (ty : TypeId) (x : Operand) (ho : op.op = .load ty x)
    (b o : Nat) (hx : a.eval x = .pointer (some ⟨b, o, none⟩)) (cs : List Value) (d : TypeDesc) (hc : w.rangeAt b o cs)
    (hu : P.underlying ty = some d) (hd : d.isRow = true) (hi : (P.info? ty).map (·.size) = some cs.length)
    (h : wpList P ops Q rest (a.put op.dst (.agg cs.toArray)) w) : wpList P ops Q (op :: rest) a w :=
  wpList_step fun _ hK => by
    rw [if_pos hw]
    exact wp_load_mid ty x ho b o hx cs d hc hu hd hi (hK _ _ h)

section
variable (l : Lab) (W : World)
set_option maxRecDepth 20000 in
set_option maxHeartbeats 4000000 in
theorem right_no (h : timeB l.t = false ∨ placeB l.ca l.se = false) : Calls Try.prog 13 #[.agg l.cells.toArray] W fun e W' => e = .returned (.bool false) ∧ Below W.heap.size W W' := by
  have bA := Blk.new W 27 l.cells.toArray
  have hsz : (W.alloc (.cells l.cells.toArray 27)).heap.size = W.heap.size + 1 := by simp
  have hB0 := Lib.hid ((Below.refl W.heap.size W).alloc (Nat.le_refl _) (.cells l.cells.toArray 27))
  have hLA := lab_all bA
  obtain ⟨ra, va, a0, a1, a2, a3, a4⟩ := hLA
  clear bA ra va a1 a2
  rcases time_cases l.t with ⟨q, t1, t2⟩ | ⟨q, t1, t2⟩ | ⟨q, t1⟩
  all_goals rcases place_cases l.ca l.se with ⟨q', c1, c2, c3, c4⟩ | ⟨q', c1⟩ | ⟨q', c1, c2⟩ | ⟨q', c1, c2, c3⟩ | ⟨q', c1, c2, c3, c4⟩
  all_goals first | (exact absurd (h.elim (fun h => q.symm.trans h) (fun h => q'.symm.trans h)) (by decide)) | skip
  all_goals
    clear h q q'
    go_enter Try.func13, Try.ntmps13
    go_wp2_with fail
    go_ret
    exact ⟨by rfl, hB0.out⟩

set_option maxRecDepth 20000 in
set_option maxHeartbeats 4000000 in
theorem right_yes (t1 : decide (1 ≤ (l.t : Int)) = true) (t2 : decide ((l.t : Int) ≤ 1099511627776) = true) (c1 : decide (1 ≤ l.ca) = true) (c2 : decide (l.ca ≤ 12) = true) (c3 : decide (0 ≤ l.se) = true) (c4 : decide (l.se ≤ 12) = true) :
    Calls Try.prog 13 #[.agg l.cells.toArray] W fun e W' => e = .returned (.bool (nextB l && decide (maxK l.f 11 ≤ 1048576))) ∧ Below W.heap.size W W' := by
  have bA := Blk.new W 27 l.cells.toArray
  have hsz : (W.alloc (.cells l.cells.toArray 27)).heap.size = W.heap.size + 1 := by simp
  have hB0 := Lib.hid ((Below.refl W.heap.size W).alloc (Nat.le_refl _) (.cells l.cells.toArray 27))
  have hLA := lab_all bA
  obtain ⟨ra, va, a0, a1, a2, a3, a4⟩ := hLA
  cases hn : nextB l with
  | false =>
    rw [Bool.false_and]
    clear bA va a1 a2
    go_enter Try.func13, Try.ntmps13
    go_wp2_with (first | (refine wpList_load_midg (by rfl) 27 _ rfl _ _ rfl (Lab.cells ?_) _ ?_ Try.underlying27 rfl (linfo _) ?_; rotate_left; (focus assumption)) | (go_at_call 47; refine (isnext_any _ _).mono ?_; rintro e W1 ⟨rfl, hb⟩; rw [hn]; have HF := Lib.hid (hB0.out.trans (hb.mono hB0.out.size)); clear hb))
    go_ret
    exact ⟨by rfl, HF.out⟩
  | true =>
    rw [Bool.true_and]
    clear bA a1 a2
    go_enter Try.func13, Try.ntmps13
    go_wp2_with (first | (refine wpList_load_midg (by rfl) 27 _ rfl _ _ rfl (Lab.cells ?_) _ ?_ Try.underlying27 rfl (linfo _) ?_; rotate_left; (focus assumption)) | (go_at_call 47; refine (isnext_any _ _).mono ?_; rintro e W1 ⟨rfl, hb⟩; rw [hn]; have HF := Lib.hid (hB0.out.trans (hb.mono hB0.out.size)); have va1 := vrange_next hb va; clear hb) | (go_at_call 48; refine (max_any l.f _ 5 _ va1).mono ?_; rintro e W2 ⟨rfl, rfl⟩))
    go_ret
    exact ⟨ret_bool (decide_eq_decide.2 (by omega)), HF.out⟩
theorem lright_any : Calls Try.prog 13 #[.agg l.cells.toArray] W fun e W' => e = .returned (.bool (rightL l)) ∧ Below W.heap.size W W' := by
  have hr : rightL l = (timeB l.t && placeB l.ca l.se && nextB l && decide (maxK l.f 11 ≤ 1048576)) := rfl
  by_cases h1 : timeB l.t = true
  · by_cases h2 : placeB l.ca l.se = true
    · rw [hr, h1, h2, Bool.true_and, Bool.true_and]
      rcases time_cases l.t with ⟨_, t1, t2⟩ | ⟨q, _⟩ | ⟨q, _⟩
      · rcases place_cases l.ca l.se with ⟨_, c1, c2, c3, c4⟩ | ⟨q, _⟩ | ⟨q, _⟩ | ⟨q, _⟩ | ⟨q, _⟩
        · exact right_yes l W t1 t2 c1 c2 c3 c4
        all_goals exact absurd (q.symm.trans h2) (by decide)
      all_goals exact absurd (q.symm.trans h1) (by decide)
    · have h2' : placeB l.ca l.se = false := by simpa using h2
      rw [hr, h1, h2', Bool.true_and, Bool.false_and, Bool.false_and]
      exact right_no l W (Or.inr h2')
  · have h1' : timeB l.t = false := by simpa using h1
    rw [hr, h1', Bool.false_and, Bool.false_and, Bool.false_and]
    exact right_no l W (Or.inl h1')
end
end Go.Proofs.Ytpimhohballafaa

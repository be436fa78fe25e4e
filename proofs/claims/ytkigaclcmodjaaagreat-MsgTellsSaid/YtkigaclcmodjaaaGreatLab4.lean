/-
label.isNext, Past, Before.
label.Before.
label.Right.
-/
import Derived.Test.YtkigaclcmodjaaaGreatEqs
namespace Go.Proofs.YtkigaclcmodjaaaGreat
open Go.RowKit

theorem range_next {W W' : World} {b o : Nat} {cs : List Value} (hb : Below W.heap.size W W') (h : W.rangeAt b o cs) : W'.rangeAt b o cs := fun j v hv => by
  have h1 := h j v hv
  exact (hb.cell (World.block_lt_of_cell? _ _ h1)).trans h1
theorem next_yes {l : Lab} (h : nextB l = true) : nextD l.f l.nd = (l.nd, l.n, 0) := by
  unfold nextB at h
  simp only [Bool.and_eq_true, decide_eq_true_eq] at h
  unfold nextD
  rw [if_pos h.1.1, if_pos h.1.2, h.2]
theorem next_no {l : Lab} (h : nextB l = false) : (nextD l.f l.nd).2.2 = 5 ∨ (nextD l.f l.nd).2.2 = 11 ∨ ∃ k : Nat, nextD l.f l.nd = (l.nd, k, 0) ∧ k ≠ l.n := by
  unfold nextD
  by_cases h1 : nodeB l.nd = true
  · rw [if_pos h1]
    by_cases h2 : getN l.f l.nd < 1048576
    · rw [if_pos h2]
      refine Or.inr (Or.inr ⟨_, rfl, fun e => ?_⟩)
      unfold nextB at h
      rw [h1, decide_eq_true h2, decide_eq_true e.symm] at h
      cases h
    · rw [if_neg h2]; exact Or.inl rfl
  · rw [if_neg h1]; exact Or.inr (Or.inl rfl)

set_option maxRecDepth 20000 in
set_option maxHeartbeats 4000000 in
theorem isnext_bad (l : Lab) (W : World) (z : Int) (k : Nat) (er : Int) (hN : nextD l.f l.nd = (z, k, er)) (he : er = 5 ∨ er = 11) :
    Calls Tryz.prog 72 #[.agg l.cells.toArray] W fun e W' => e = .returned (.bool false) ∧ Below W.heap.size W W' := by
  rcases he with rfl | rfl
  all_goals
    have bA := Blk.new W 27 l.cells.toArray
    have hsz : (W.alloc (.cells l.cells.toArray 27)).heap.size = W.heap.size + 1 := by simp
    have hB0 := Lib.hid ((Below.refl W.heap.size W).alloc (Nat.le_refl _) (.cells l.cells.toArray 27))
    have hLA := lab_all bA
    obtain ⟨ra, va, a0, a1, a2, a3, a4⟩ := hLA
    have HC := Lib.hid (fun W1 => next_any l.f l.nd W1)
    rw [hN] at HC
    clear hN ra
    go_enter Tryz.func72, Tryz.ntmps72
    go_wp2_with (first | (refine wpList_load_mid rfl 25 _ rfl _ _ rfl (vl ?_) _ ?_ Tryz.underlying25 rfl (vinfoL _) ?_; rotate_left; (focus assumption)) | (go_at_call 96; refine (HC.out _).mono ?_; rintro e W1 ⟨rfl, hb⟩; have HB1 := Lib.hid (hB0.out.trans (hb.mono hB0.out.size)); have BA1 := Lib.hid (bA.next hb); clear hb bA))
    refine wp_region_tree (S := (fun _ => True)) (.take 0 (.take 1 (.take 2 (.take 3 (.take 4 (.take 5 (.take 6 (.take 7 (.take 8 .nil))))))))) 9999 (by kernel_rfl) (by kernel_rfl) (by kernel_rfl) (by kernel_rfl) (by kernel_rfl) (fun _ _ d _ _ h => by cases d <;> exact h) ?_ (fun hHeld => ?_); (focus (trivial)); simp only [Tree.map, List.getElem?_toArray, List.getElem?_cons_zero, List.getElem?_cons_succ]
    (repeat (first | (refine wpTree.take (v := undef) (Or.inr ⟨by rfl, rfl⟩) ?_; simp only [Act.put, List.setIfInBounds_toArray, List.set_cons_zero, List.set_cons_succ]) | (refine wpTree.take (v := ?_) (Or.inl ⟨by rfl, ?_⟩) ?_; rotate_left; (focus (intro _ hS; (try dsimp only at hS); go_split_ands; (try subst hS); go_simp; (try (with_reducible rfl)); done)); simp only [Act.put, List.setIfInBounds_toArray, List.set_cons_zero, List.set_cons_succ])))
    refine wpTree.done ?_
    go_wp2_with fail
    go_ret
    exact ⟨rfl, (HB1.out.alloc HB1.out.size _).drew⟩

set_option maxRecDepth 20000 in
set_option maxHeartbeats 4000000 in
theorem isnext_good (l : Lab) (W : World) (k : Nat) (bo : Bool) (hN : nextD l.f l.nd = (l.nd, k, 0)) (he : decide ((k : Int) = (l.n : Nat)) = bo) :
    Calls Tryz.prog 72 #[.agg l.cells.toArray] W fun e W' => e = .returned (.bool bo) ∧ Below W.heap.size W W' := by
  have bA := Blk.new W 27 l.cells.toArray
  have hsz : (W.alloc (.cells l.cells.toArray 27)).heap.size = W.heap.size + 1 := by simp
  have hB0 := Lib.hid ((Below.refl W.heap.size W).alloc (Nat.le_refl _) (.cells l.cells.toArray 27))
  have hLA := lab_all bA
  obtain ⟨ra, va, a0, a1, a2, a3, a4⟩ := hLA
  have HC := Lib.hid (fun W1 => next_any l.f l.nd W1)
  rw [hN] at HC
  clear hN ra
  go_enter Tryz.func72, Tryz.ntmps72
  go_wp2_with (first | (refine wpList_load_mid rfl 25 _ rfl _ _ rfl (vl ?_) _ ?_ Tryz.underlying25 rfl (vinfoL _) ?_; rotate_left; (focus assumption)) | (go_at_call 96; refine (HC.out _).mono ?_; rintro e W1 ⟨rfl, hb⟩; have HB1 := Lib.hid (hB0.out.trans (hb.mono hB0.out.size)); have BA1 := Lib.hid (bA.next hb); clear hb bA))
  have hD := Blk.new W1 149 #[.int .i64 l.nd, .int .u32 (k : Nat)]
  have hR := (BA1.out.alloc (.cells #[.int .i64 l.nd, .int .u32 (k : Nat)] 149)).range
  have d0 := hD.cell 0
  have d1 := hD.cell 1
  have hq : ∀ w, (Op.equalIn 10000 149 (.agg #[.int .i64 l.nd, .int .u32 (k : Nat)]) (.agg #[.int .i64 l.nd, .int .u32 (l.n : Nat)])).run Tryz.prog w = .ok bo w := fun w => by
    rw [eq_dot, ← he, beq_self_eq_true, Bool.true_and]; rfl
  clear he
  refine wp_region_tree (S := (fun W' => W'.rangeAt W.heap.size 0 l.cells ∧ W'.cell? ⟨W1.heap.size, 0, none⟩ = some (.int .i64 l.nd) ∧ W'.cell? ⟨W1.heap.size, 1, none⟩ = some (.int .u32 (k : Nat)))) (.take 0 (.take 1 (.take 2 (.take 3 (.take 4 (.one 5 (.take 6 (.take 7 (.take 8 .nil))))))))) 9999 (by kernel_rfl) (by kernel_rfl) (by kernel_rfl) (by kernel_rfl) (by kernel_rfl) (fun _ _ d _ _ h => by cases d <;> exact h) ?_ (fun hHeld => ?_); (focus (exact ⟨hR, d0, d1⟩)); simp only [Tree.map, List.getElem?_toArray, List.getElem?_cons_zero, List.getElem?_cons_succ]
  (repeat (first | (refine wpTree.take (v := undef) (Or.inr ⟨by rfl, rfl⟩) ?_; simp only [Act.put, List.setIfInBounds_toArray, List.set_cons_zero, List.set_cons_succ]) | (refine wpTree.take (v := .agg (Lab.cells ?_).toArray) (yieldsIf_load_mid rfl 27 _ rfl _ _ rfl (Lab.cells _) _ ?_ Tryz.underlying27 rfl (linfo _)) ?_; rotate_left; (focus (intro _ hS; (try dsimp only at hS); go_split_ands; assumption)); simp only [Act.put, List.setIfInBounds_toArray, List.set_cons_zero, List.set_cons_succ]) | (refine wpTree.take (v := ?_) (Or.inl ⟨by rfl, ?_⟩) ?_; rotate_left; (focus (intro _ hS; (try dsimp only at hS); go_split_ands; (try subst hS); go_simp; (try (with_reducible rfl)); done)); simp only [Act.put, List.setIfInBounds_toArray, List.set_cons_zero, List.set_cons_succ])))
  refine wpTree.one (fun K hK => ?_)
  go_simp
  go_at_call 97
  refine (dot_any l _).mono ?_
  rintro e W2 ⟨rfl, hb2⟩
  refine hK.out _ _ ⟨range_next hb2 hHeld.1, cell_next hb2 hHeld.2.1, cell_next hb2 hHeld.2.2⟩ (fun _ => ?_)
  clear hK K
  (repeat (first | (refine wpTree.take (v := undef) (Or.inr ⟨by rfl, rfl⟩) ?_; simp only [Act.put, List.setIfInBounds_toArray, List.set_cons_zero, List.set_cons_succ]) | (refine wpTree.take (v := ?_) (Or.inl ⟨by rfl, ?_⟩) ?_; rotate_left; (focus (intro _ hS; (try dsimp only at hS); go_split_ands; (try subst hS); go_simp; (try (with_reducible rfl)); done)); simp only [Act.put, List.setIfInBounds_toArray, List.set_cons_zero, List.set_cons_succ])))
  refine wpTree.done ?_
  have HF := Lib.hid ((HB1.out.alloc HB1.out.size (.cells #[.int .i64 l.nd, .int .u32 (k : Nat)] 149)).drew.trans (hb2.mono (by simp; exact Nat.le_succ_of_le HB1.out.size)))
  clear hb2 hHeld
  go_wp2_with fail
  go_ret
  exact ⟨by rfl, HF.out⟩
theorem isnext_any (l : Lab) (W : World) : Calls Tryz.prog 72 #[.agg l.cells.toArray] W fun e W' => e = .returned (.bool (nextB l)) ∧ Below W.heap.size W W' := by
  cases h : nextB l with
  | true => exact isnext_good l W l.n true (next_yes h) (decide_eq_true rfl)
  | false =>
    rcases next_no h with h1 | h1 | ⟨k, h1, h2⟩
    · exact isnext_bad l W _ _ _ rfl (Or.inl h1)
    · exact isnext_bad l W _ _ _ rfl (Or.inr h1)
    · exact isnext_good l W k false h1 (decide_eq_false (by omega))

/-- A label's past. -/
def pastF (l : Lab) : Nat → Nat := withF l.f l.nd l.n
end Go.Proofs.YtkigaclcmodjaaaGreat
namespace Go.Proofs.YtkigaclcmodjaaaGreat
open Go.RowKit

/-- Does b's event depend on a's? -/
def befB (a b : Lab) : Bool := decide (a.ca = b.ca) && hasB b.f a.nd a.n

end Go.Proofs.YtkigaclcmodjaaaGreat
namespace Go.Proofs.YtkigaclcmodjaaaGreat
open Go.RowKit

def timeB (t : Nat) : Bool := decide (1 ≤ t) && decide (t ≤ 1099511627776)
def placeB (ca se : Int) : Bool := decide (1 ≤ ca) && decide (ca ≤ 12) && decide (0 ≤ se) && decide (se ≤ 12)
/-- May a label be? -/
def rightL (l : Lab) : Bool := timeB l.t && placeB l.ca l.se && nextB l && decide (maxK l.f 11 ≤ 1048576)
theorem time_cases (t : Nat) : (timeB t = true ∧ decide (1 ≤ (t : Int)) = true ∧ decide ((t : Int) ≤ 1099511627776) = true) ∨ (timeB t = false ∧ decide (1 ≤ (t : Int)) = true ∧ decide ((t : Int) ≤ 1099511627776) = false) ∨ (timeB t = false ∧ decide (1 ≤ (t : Int)) = false) := by
  unfold timeB
  by_cases h1 : 1 ≤ t
  · by_cases h2 : t ≤ 1099511627776
    · exact Or.inl ⟨by simp [h1, h2], by simp; omega, by simp; omega⟩
    · exact Or.inr (Or.inl ⟨by simp [h2], by simp; omega, by simp; omega⟩)
  · exact Or.inr (Or.inr ⟨by simp [h1], by simp; omega⟩)
theorem place_cases (ca se : Int) : (placeB ca se = true ∧ decide (1 ≤ ca) = true ∧ decide (ca ≤ 12) = true ∧ decide (0 ≤ se) = true ∧ decide (se ≤ 12) = true) ∨ (placeB ca se = false ∧ decide (1 ≤ ca) = false)
    ∨ (placeB ca se = false ∧ decide (1 ≤ ca) = true ∧ decide (ca ≤ 12) = false) ∨ (placeB ca se = false ∧ decide (1 ≤ ca) = true ∧ decide (ca ≤ 12) = true ∧ decide (0 ≤ se) = false)
    ∨ (placeB ca se = false ∧ decide (1 ≤ ca) = true ∧ decide (ca ≤ 12) = true ∧ decide (0 ≤ se) = true ∧ decide (se ≤ 12) = false) := by
  unfold placeB
  cases h1 : decide (1 ≤ ca)
  · simp
  · cases h2 : decide (ca ≤ 12)
    · simp
    · cases h3 : decide (0 ≤ se)
      · simp
      · cases h4 : decide (se ≤ 12) <;> simp

theorem wpList_load_midg {P : Program} {ops : Array Oper} {rest : List Oper} {op : Oper} {a : Act} {w : World} {Q : Exit → Act → World → Prop} (hw : Region.wanted op (yielded ops a.tmps) = true) (ty : TypeId) (x : Operand) (ho : op.op = .load ty x)
    (b o : Nat) (hx : a.eval x = .pointer (some ⟨b, o, none⟩)) (cs : List Value) (d : TypeDesc) (hc : w.rangeAt b o cs)
    (hu : P.underlying ty = some d) (hd : d.isRow = true) (hi : (P.info? ty).map (·.size) = some cs.length)
    (h : wpList P ops Q rest (a.put op.dst (.agg cs.toArray)) w) : wpList P ops Q (op :: rest) a w :=
  wpList_step fun _ hK => by
    rw [if_pos hw]
    exact wp_load_mid ty x ho b o hx cs d hc hu hd hi (hK _ _ h)

section
variable (l : Lab) (W : World)
set_option maxRecDepth 20000 in
set_option maxHeartbeats 4000000 in
theorem right_no (h : timeB l.t = false ∨ placeB l.ca l.se = false) : Calls Tryz.prog 46 #[.agg l.cells.toArray] W fun e W' => e = .returned (.bool false) ∧ Below W.heap.size W W' := by
  have bA := Blk.new W 27 l.cells.toArray
  have hsz : (W.alloc (.cells l.cells.toArray 27)).heap.size = W.heap.size + 1 := by simp
  have hB0 := Lib.hid ((Below.refl W.heap.size W).alloc (Nat.le_refl _) (.cells l.cells.toArray 27))
  have hLA := lab_all bA
  obtain ⟨ra, va, a0, a1, a2, a3, a4⟩ := hLA
  clear bA ra va a1 a2
  rcases time_cases l.t with ⟨q, t1, t2⟩ | ⟨q, t1, t2⟩ | ⟨q, t1⟩
  all_goals rcases place_cases l.ca l.se with ⟨q', c1, c2, c3, c4⟩ | ⟨q', c1⟩ | ⟨q', c1, c2⟩ | ⟨q', c1, c2, c3⟩ | ⟨q', c1, c2, c3, c4⟩
  all_goals first | (exact absurd (h.elim (fun h => q.symm.trans h) (fun h => q'.symm.trans h)) (by decide)) | skip
  all_goals
    clear h q q'
    go_enter Tryz.func46, Tryz.ntmps46
    go_wp2_with fail
    go_ret
    exact ⟨by rfl, hB0.out⟩

set_option maxRecDepth 20000 in
set_option maxHeartbeats 4000000 in
theorem right_yes (t1 : decide (1 ≤ (l.t : Int)) = true) (t2 : decide ((l.t : Int) ≤ 1099511627776) = true) (c1 : decide (1 ≤ l.ca) = true) (c2 : decide (l.ca ≤ 12) = true) (c3 : decide (0 ≤ l.se) = true) (c4 : decide (l.se ≤ 12) = true) :
    Calls Tryz.prog 46 #[.agg l.cells.toArray] W fun e W' => e = .returned (.bool (nextB l && decide (maxK l.f 11 ≤ 1048576))) ∧ Below W.heap.size W W' := by
  have bA := Blk.new W 27 l.cells.toArray
  have hsz : (W.alloc (.cells l.cells.toArray 27)).heap.size = W.heap.size + 1 := by simp
  have hB0 := Lib.hid ((Below.refl W.heap.size W).alloc (Nat.le_refl _) (.cells l.cells.toArray 27))
  have hLA := lab_all bA
  obtain ⟨ra, va, a0, a1, a2, a3, a4⟩ := hLA
  cases hn : nextB l with
  | false =>
    rw [Bool.false_and]
    clear bA va a1 a2
    go_enter Tryz.func46, Tryz.ntmps46
    go_wp2_with (first | (refine wpList_load_midg (by rfl) 27 _ rfl _ _ rfl (Lab.cells ?_) _ ?_ Tryz.underlying27 rfl (linfo _) ?_; rotate_left; (focus assumption)) | (go_at_call 72; refine (isnext_any _ _).mono ?_; rintro e W1 ⟨rfl, hb⟩; rw [hn]; have HF := Lib.hid (hB0.out.trans (hb.mono hB0.out.size)); clear hb))
    go_ret
    exact ⟨by rfl, HF.out⟩
  | true =>
    rw [Bool.true_and]
    clear bA a1 a2
    go_enter Tryz.func46, Tryz.ntmps46
    go_wp2_with (first | (refine wpList_load_midg (by rfl) 27 _ rfl _ _ rfl (Lab.cells ?_) _ ?_ Tryz.underlying27 rfl (linfo _) ?_; rotate_left; (focus assumption)) | (go_at_call 72; refine (isnext_any _ _).mono ?_; rintro e W1 ⟨rfl, hb⟩; rw [hn]; have HF := Lib.hid (hB0.out.trans (hb.mono hB0.out.size)); have va1 := vrange_next hb va; clear hb) | (go_at_call 73; refine (max_any l.f _ 5 _ va1).mono ?_; rintro e W2 ⟨rfl, rfl⟩))
    go_ret
    exact ⟨ret_bool (decide_eq_decide.2 (by omega)), HF.out⟩
theorem lright_any : Calls Tryz.prog 46 #[.agg l.cells.toArray] W fun e W' => e = .returned (.bool (rightL l)) ∧ Below W.heap.size W W' := by
  have hr : rightL l = (timeB l.t && placeB l.ca l.se && nextB l && decide (maxK l.f 11 ≤ 1048576)) := rfl
  by_cases h1 : timeB l.t = true
  · by_cases h2 : placeB l.ca l.se = true
    · rw [hr, h1, h2, Bool.true_and, Bool.true_and]
      rcases time_cases l.t with ⟨_, t1, t2⟩ | ⟨q, _⟩ | ⟨q, _⟩
      · rcases place_cases l.ca l.se with ⟨_, c1, c2, c3, c4⟩ | ⟨q, _⟩ | ⟨q, _⟩ | ⟨q, _⟩ | ⟨q, _⟩
        · exact right_yes l W t1 t2 c1 c2 c3 c4
        all_goals exact absurd (q.symm.trans h2) (by decide)
      all_goals exact absurd (q.symm.trans h1) (by decide)
    · have h2' : placeB l.ca l.se = false := by simpa using h2
      rw [hr, h1, h2', Bool.true_and, Bool.false_and, Bool.false_and]
      exact right_no l W (Or.inr h2')
  · have h1' : timeB l.t = false := by simpa using h1
    rw [hr, h1', Bool.false_and, Bool.false_and, Bool.false_and]
    exact right_no l W (Or.inl h1')
end
end Go.Proofs.YtkigaclcmodjaaaGreat

/-
relay: labels: what is right (of label's texts, without the rest).
-/
import Derived.Test.YtohnhokddbeheaaCalls4
import Derived.Test.YtohnhokddbeheaaStore
import Derived.Test.YtohnhokddbeheaaTurn
import Derived.Laws.StructEq
namespace Go.Proofs.Ytohnhokddbeheaa
open Go.RowKit
/-- A label. -/
structure Lab where
  (t : Nat)
  (nd : Int)
  (n : Nat)
  (ca se : Int)
  (f : Nat → Nat)
def Lab.cells (l : Lab) : List Value := [.int .u64 (l.t : Nat), .int .i64 l.nd, .int .u32 (l.n : Nat), .int .i64 l.ca, .int .i64 l.se] ++ vl l.f
section
variable {l : Lab}
theorem lab_0 : l.cells[0]? = some (.int .u64 (l.t : Nat)) := rfl
theorem lab_1 : l.cells[1]? = some (.int .i64 l.nd) := rfl
theorem lab_2 : l.cells[2]? = some (.int .u32 (l.n : Nat)) := rfl
theorem lab_3 : l.cells[3]? = some (.int .i64 l.ca) := rfl
theorem lab_4 : l.cells[4]? = some (.int .i64 l.se) := rfl
theorem lab_5 (j : Nat) : l.cells[5 + j]? = (vl l.f)[j]? := by
  unfold Lab.cells; rw [List.getElem?_append_right (by simp)]; simp
theorem lab_len : l.cells.length = 17 := by unfold Lab.cells; rw [List.length_append, vl_len]; rfl
end
attribute [irreducible] Lab.cells
theorem linfo (l : Lab) : (Try.prog.info? 55).map (·.size) = some l.cells.length := by rw [lab_len]; kernel_rfl
theorem linfoA (l : Lab) : (Try.prog.info? 55).map (·.size) = some l.cells.toArray.size := by rw [List.size_toArray, lab_len]; kernel_rfl
/-- A box that holds a label. -/
theorem lab_all {W : World} {b : Nat} {t : TypeId} {l : Lab} (h : Blk W b t l.cells.toArray) : W.rangeAt b 0 ((l).cells) ∧ W.rangeAt b 5 (vl (l).f) ∧ W.cell? ⟨b, 0, none⟩ = some (.int .u64 ((l).t : Nat)) ∧ W.cell? ⟨b, 1, none⟩ = some (.int .i64 (l).nd) ∧ W.cell? ⟨b, 2, none⟩ = some (.int .u32 ((l).n : Nat)) ∧ W.cell? ⟨b, 3, none⟩ = some (.int .i64 (l).ca) ∧ W.cell? ⟨b, 4, none⟩ = some (.int .i64 (l).se) := by
  have hc : ∀ i, W.cell? ⟨b, i, none⟩ = l.cells[i]? := fun i => by rw [h.cell, List.getElem?_toArray]
  refine ⟨h.range, fun j v hv => ?_, (hc 0).trans lab_0, (hc 1).trans lab_1, (hc 2).trans lab_2, (hc 3).trans lab_3, (hc 4).trans lab_4⟩
  rw [hc, lab_5, hv]

set_option maxRecDepth 20000 in
theorem dot_any (l : Lab) (W : World) : Calls Try.prog 78 #[.agg l.cells.toArray] W fun e W' => e = .returned (.agg #[.int .i64 l.nd, .int .u32 (l.n : Nat)]) ∧ Below W.heap.size W W' := by
  have b0 : Below W.heap.size W (W.alloc (.cells l.cells.toArray 55)) := (Below.refl _ W).alloc (Nat.le_refl _) _
  have q1 := lab_1 (l := l)
  have q2 := lab_2 (l := l)
  go_enter Try.func78, Try.ntmps78
  go_wp2_with fail
  all_goals
    refine bodyPost_ret (v := .agg #[.int .i64 l.nd, .int .u32 (l.n : Nat)]) (by simp [results, Try.results78, go_sem]) rfl ⟨rfl, by (repeat' (first | exact Below.refl _ _ | assumption | (with_reducible refine below_alloc' ?_) | (with_reducible refine Below.drew ?_) | (with_reducible refine below_next' (by assumption) ?_) | (with_reducible refine below_setRow ?_ ?_ _) | (with_reducible refine Below.setCell ?_ ?_ _) | (with_reducible refine below_next (by assumption) ?_ ?_) | (with_reducible refine Below.alloc ?_ ?_ _) | exact Nat.le_refl _ | (exact below_size (by assumption)) | (with_reducible refine size_alloc ?_) | (with_reducible refine size_setRow' ?_) | (with_reducible refine size_setCell' ?_) | (with_reducible refine size_next (by assumption) ?_) | omega | (simp; done) | (simp; omega)))⟩

/-- May a label's dot be the next one? -/
def nextB (l : Lab) : Bool := nodeB l.nd && decide (getN l.f l.nd < 1048576) && decide (l.n = getN l.f l.nd + 1)
attribute [irreducible] nextB

/-- The greatest number of a vector. -/
def maxK (f : Nat → Nat) : Nat → Nat
  | 0 => f 0
  | k + 1 => max (maxK f k) (f (k + 1))
theorem maxK_le (f : Nat → Nat) (M : Nat) : ∀ k, maxK f k ≤ M ↔ ∀ i, i ≤ k → f i ≤ M
  | 0 => ⟨fun h i hi => by obtain rfl : i = 0 := by omega
                           exact h, fun h => h 0 (Nat.le_refl _)⟩
  | k + 1 => by
    unfold maxK
    have ih := maxK_le f M k
    constructor
    · intro h i hi
      by_cases h1 : i = k + 1
      · subst h1; omega
      · exact ih.1 (by omega) i (by omega)
    · intro h
      have h1 := h (k + 1) (Nat.le_refl _)
      have h2 := ih.2 fun i hi => h i (by omega)
      omega
def MaxFar (f : Nat → Nat) (k : Nat) (x : Value) : Prop := x = .int .u32 (maxK f k : Nat)
set_option maxRecDepth 20000 in
set_option maxHeartbeats 1000000 in
theorem max_any (f : Nat → Nat) (b o : Nat) (W : World) (h : W.rangeAt b o (vl f)) :
    Calls Try.prog 64 #[.slice (some ⟨b, o, none⟩) 12 12] W fun e W' => e = .returned (.int .u32 (maxK f 11 : Nat)) ∧ W = W' := by
  have H := Lib.hid h
  have c0 := h 0 _ (vl_get (f := f) (k := 0) (by omega))
  rw [Nat.add_zero] at c0
  clear h
  go_enter Try.func64, Try.ntmps64
  go_wp2_with fail
  go_loop [3, 4] (fun x i => ∃ k : Nat, k ≤ 11 ∧ i = .int .i64 ((k : Int) + 1) ∧ MaxFar f k x) (fun _ i => 12 - (intOf i).toNat)
  case atStart => exact ⟨0, Nat.zero_le _, rfl, rfl⟩
  case round =>
    obtain ⟨k, hk, rfl, hx⟩ := hrel
    unfold MaxFar at hx
    subst hx
    by_cases hlt : k < 11
    · have h1 : (k : Int) + 1 < 12 := by omega
      have h2 : ((k : Int) + 1).toNat = k + 1 := by omega
      have ck := H.out (k + 1) _ (vl_get (f := f) (k := k + 1) (by omega))
      have hm : max (maxK f k : Int) (f (k + 1) : Int) = (maxK f (k + 1) : Nat) := by show _ = ((max (maxK f k) (f (k + 1)) : Nat) : Int); omega
      have HM := Lib.hid hm
      clear hm c0
      go_wp2_with fail
      go_round
      case rel => exact ⟨k + 1, by omega, by go_num, by unfold MaxFar; rw [← HM.out]⟩
      case measure => simp [intOf]; omega
    · obtain rfl : k = 11 := by omega
      clear c0 hlt
      go_wp2_with fail
      go_ret
      exact ⟨rfl, rfl⟩
end Go.Proofs.Ytohnhokddbeheaa
namespace Go.Proofs.Ytohnhokddbeheaa
open Go.RowKit

/-- Fields compared: those of name, type and place. -/
def eqTr (d : Nat) (xs ys : Array Value) : List (Bool × TypeId × Nat) → Sem Bool
  | [] => pure true
  | f :: fs =>
    if f.1 = true then do
      let a ← part f.2.1 xs f.2.2
      let b ← part f.2.1 ys f.2.2
      let r ← Op.equalIn d f.2.1 a b
      if (!r) = true then pure false else eqTr d xs ys fs
    else eqTr d xs ys fs
theorem eq_tr {P : Program} (d : Nat) (xs ys : Array Value) : ∀ (fs : List Field) (gs : List (Bool × TypeId × Nat)) (w : World), fs.map (fun f => (f.name != "_", f.type, f.offset)) = gs → (Op.eqFields d xs ys fs).run P w = (eqTr d xs ys gs).run P w
  | [], _, w, h => by subst h; rfl
  | f :: fs, _, w, h => by
    subst h
    have ih := fun w => eq_tr (P := P) d xs ys fs _ w rfl
    simp only [Op.eqFields, List.map_cons, eqTr, Sem.run_bind, Sem.run_ite, ih, bne_iff_ne]
theorem run_eqTr {P : Program} {d : Nat} {xs ys : Array Value} {t : TypeId} {o : Nat} {a b : Value} {c : Bool} {gs : List (Bool × TypeId × Nat)} (w : World) (ha : ∀ w, (part t xs o).run P w = .ok a w) (hb : ∀ w, (part t ys o).run P w = .ok b w)
    (he : ∀ w, (Op.equalIn d t a b).run P w = .ok c w) : (eqTr d xs ys ((true, t, o) :: gs)).run P w = if c then (eqTr d xs ys gs).run P w else .ok false w := by
  simp only [eqTr, if_true, Sem.run_bind, ha, hb, he, Result.andThen_ok]
  cases c <;> simp

set_option maxRecDepth 20000 in
theorem dotFields : (Try.prog.fieldsOf 133).toList.map (fun f => (f.name != "_", f.type, f.offset)) = [(true, 3, 0), (true, 51, 1)] := by kernel_rfl
theorem part_u32 {xs : Array Value} {o : Nat} {v : Value} (h : xs[o]? = some v) (w : World) : (part 51 xs o).run Try.prog w = .ok v w := by
  simp [part, isAgg, run_underlying Try.underlying51, h]
theorem part_u64 {xs : Array Value} {o : Nat} {v : Value} (h : xs[o]? = some v) (w : World) : (part 50 xs o).run Try.prog w = .ok v w := by
  simp [part, isAgg, run_underlying Try.underlying50, h]
theorem part_int {xs : Array Value} {o : Nat} {v : Value} (h : xs[o]? = some v) (w : World) : (part 3 xs o).run Try.prog w = .ok v w := by
  simp [part, isAgg, run_underlying Try.underlying3, h]

set_option maxRecDepth 20000 in
theorem eq_dot (n k n2 k2 : Int) (w : World) : (Op.equalIn 10000 133 (.agg #[.int .i64 n, .int .u32 k]) (.agg #[.int .i64 n2, .int .u32 k2])).run Try.prog w = .ok (n == n2 && k == k2) w := by
  rw [run_equalIn_struct w 9999 _ _ _ (by kernel_rfl) (by kernel_rfl), eq_tr 9999 _ _ _ _ w dotFields]
  rw [run_eqTr w (part_int rfl) (part_int rfl) (fun w => run_equalIn_int w 9998 _ _ _ _ _ Try.underlying3), run_eqTr w (part_u32 rfl) (part_u32 rfl) (fun w => run_equalIn_int w 9998 _ _ _ _ _ Try.underlying51)]
  cases h1 : (n == n2) <;> cases h2 : (k == k2) <;> simp [eqTr]

theorem range_next {W W' : World} {b o : Nat} {cs : List Value} (hb : Below W.heap.size W W') (h : W.rangeAt b o cs) : W'.rangeAt b o cs := fun j v hv => by
  have h1 := h j v hv
  exact (hb.cell (World.block_lt_of_cell? _ _ h1)).trans h1
theorem next_yes {l : Lab} (h : nextB l = true) : nextD l.f l.nd = (l.nd, l.n, 0) := by
  unfold nextB at h
  simp only [Bool.and_eq_true, decide_eq_true_eq] at h
  unfold nextD
  rw [if_pos h.1.1, if_pos h.1.2, h.2]
theorem next_no {l : Lab} (h : nextB l = false) : (nextD l.f l.nd).2.2 = 5 ∨ (nextD l.f l.nd).2.2 = 11 ∨ ∃ k : Nat, nextD l.f l.nd = (l.nd, k, 0) ∧ k ≠ l.n := by
  unfold nextD
  by_cases h1 : nodeB l.nd = true
  · rw [if_pos h1]
    by_cases h2 : getN l.f l.nd < 1048576
    · rw [if_pos h2]
      refine Or.inr (Or.inr ⟨_, rfl, fun e => ?_⟩)
      unfold nextB at h
      rw [h1, decide_eq_true h2, decide_eq_true e.symm] at h
      cases h
    · rw [if_neg h2]; exact Or.inl rfl
  · rw [if_neg h1]; exact Or.inr (Or.inl rfl)

set_option maxRecDepth 20000 in
set_option maxHeartbeats 4000000 in
theorem isnext_bad (l : Lab) (W : World) (z : Int) (k : Nat) (er : Int) (hN : nextD l.f l.nd = (z, k, er)) (he : er = 5 ∨ er = 11) :
    Calls Try.prog 63 #[.agg l.cells.toArray] W fun e W' => e = .returned (.bool false) ∧ Below W.heap.size W W' := by
  rcases he with rfl | rfl
  all_goals
    have bA := Blk.new W 55 l.cells.toArray
    have hsz : (W.alloc (.cells l.cells.toArray 55)).heap.size = W.heap.size + 1 := by simp
    have hB0 := Lib.hid ((Below.refl W.heap.size W).alloc (Nat.le_refl _) (.cells l.cells.toArray 55))
    have hLA := lab_all bA
    obtain ⟨ra, va, a0, a1, a2, a3, a4⟩ := hLA
    have HC := Lib.hid (fun W1 => next_any l.f l.nd W1)
    rw [hN] at HC
    clear hN ra
    go_enter Try.func63, Try.ntmps63
    go_wp2_with (first | (refine wpList_load_mid rfl 53 _ rfl _ _ rfl (vl ?_) _ ?_ Try.underlying53 rfl (vinfoL _) ?_; rotate_left; (focus assumption)) | (go_at_call 77; refine (HC.out _).mono ?_; rintro e W1 ⟨rfl, hb⟩; have HB1 := Lib.hid (hB0.out.trans (hb.mono hB0.out.size)); have BA1 := Lib.hid (bA.next hb); clear hb bA))
    refine wp_region_tree (S := (fun _ => True)) (.take 0 (.take 1 (.take 2 (.take 3 (.take 4 (.take 5 (.take 6 (.take 7 (.take 8 .nil))))))))) 9999 (by kernel_rfl) (by kernel_rfl) (by kernel_rfl) (by kernel_rfl) (by kernel_rfl) (fun _ _ d _ _ h => by cases d <;> exact h) ?_ (fun hHeld => ?_); (focus (trivial)); simp only [Tree.map, List.getElem?_toArray, List.getElem?_cons_zero, List.getElem?_cons_succ]
    (repeat (first | (refine wpTree.take (v := undef) (Or.inr ⟨by rfl, rfl⟩) ?_; simp only [Act.put, List.setIfInBounds_toArray, List.set_cons_zero, List.set_cons_succ]) | (refine wpTree.take (v := ?_) (Or.inl ⟨by rfl, ?_⟩) ?_; rotate_left; (focus (intro _ hS; (try dsimp only at hS); go_split_ands; (try subst hS); go_simp; (try (with_reducible rfl)); done)); simp only [Act.put, List.setIfInBounds_toArray, List.set_cons_zero, List.set_cons_succ])))
    refine wpTree.done ?_
    go_wp2_with fail
    go_ret
    exact ⟨rfl, (HB1.out.alloc HB1.out.size _).drew⟩

set_option maxRecDepth 20000 in
set_option maxHeartbeats 4000000 in
theorem isnext_good (l : Lab) (W : World) (k : Nat) (bo : Bool) (hN : nextD l.f l.nd = (l.nd, k, 0)) (he : decide ((k : Int) = (l.n : Nat)) = bo) :
    Calls Try.prog 63 #[.agg l.cells.toArray] W fun e W' => e = .returned (.bool bo) ∧ Below W.heap.size W W' := by
  have bA := Blk.new W 55 l.cells.toArray
  have hsz : (W.alloc (.cells l.cells.toArray 55)).heap.size = W.heap.size + 1 := by simp
  have hB0 := Lib.hid ((Below.refl W.heap.size W).alloc (Nat.le_refl _) (.cells l.cells.toArray 55))
  have hLA := lab_all bA
  obtain ⟨ra, va, a0, a1, a2, a3, a4⟩ := hLA
  have HC := Lib.hid (fun W1 => next_any l.f l.nd W1)
  rw [hN] at HC
  clear hN ra
  go_enter Try.func63, Try.ntmps63
  go_wp2_with (first | (refine wpList_load_mid rfl 53 _ rfl _ _ rfl (vl ?_) _ ?_ Try.underlying53 rfl (vinfoL _) ?_; rotate_left; (focus assumption)) | (go_at_call 77; refine (HC.out _).mono ?_; rintro e W1 ⟨rfl, hb⟩; have HB1 := Lib.hid (hB0.out.trans (hb.mono hB0.out.size)); have BA1 := Lib.hid (bA.next hb); clear hb bA))
  have hD := Blk.new W1 133 #[.int .i64 l.nd, .int .u32 (k : Nat)]
  have hR := (BA1.out.alloc (.cells #[.int .i64 l.nd, .int .u32 (k : Nat)] 133)).range
  have d0 := hD.cell 0
  have d1 := hD.cell 1
  have hq : ∀ w, (Op.equalIn 10000 133 (.agg #[.int .i64 l.nd, .int .u32 (k : Nat)]) (.agg #[.int .i64 l.nd, .int .u32 (l.n : Nat)])).run Try.prog w = .ok bo w := fun w => by
    rw [eq_dot, ← he, beq_self_eq_true, Bool.true_and]; rfl
  clear he
  refine wp_region_tree (S := (fun W' => W'.rangeAt W.heap.size 0 l.cells ∧ W'.cell? ⟨W1.heap.size, 0, none⟩ = some (.int .i64 l.nd) ∧ W'.cell? ⟨W1.heap.size, 1, none⟩ = some (.int .u32 (k : Nat)))) (.take 0 (.take 1 (.take 2 (.take 3 (.take 4 (.one 5 (.take 6 (.take 7 (.take 8 .nil))))))))) 9999 (by kernel_rfl) (by kernel_rfl) (by kernel_rfl) (by kernel_rfl) (by kernel_rfl) (fun _ _ d _ _ h => by cases d <;> exact h) ?_ (fun hHeld => ?_); (focus (exact ⟨hR, d0, d1⟩)); simp only [Tree.map, List.getElem?_toArray, List.getElem?_cons_zero, List.getElem?_cons_succ]
  (repeat (first | (refine wpTree.take (v := undef) (Or.inr ⟨by rfl, rfl⟩) ?_; simp only [Act.put, List.setIfInBounds_toArray, List.set_cons_zero, List.set_cons_succ]) | (refine wpTree.take (v := .agg (Lab.cells ?_).toArray) (yieldsIf_load_mid rfl 55 _ rfl _ _ rfl (Lab.cells _) _ ?_ Try.underlying55 rfl (linfo _)) ?_; rotate_left; (focus (intro _ hS; (try dsimp only at hS); go_split_ands; assumption)); simp only [Act.put, List.setIfInBounds_toArray, List.set_cons_zero, List.set_cons_succ]) | (refine wpTree.take (v := ?_) (Or.inl ⟨by rfl, ?_⟩) ?_; rotate_left; (focus (intro _ hS; (try dsimp only at hS); go_split_ands; (try subst hS); go_simp; (try (with_reducible rfl)); done)); simp only [Act.put, List.setIfInBounds_toArray, List.set_cons_zero, List.set_cons_succ])))
  refine wpTree.one (fun K hK => ?_)
  go_simp
  go_at_call 78
  refine (dot_any l _).mono ?_
  rintro e W2 ⟨rfl, hb2⟩
  refine hK.out _ _ ⟨range_next hb2 hHeld.1, cell_next hb2 hHeld.2.1, cell_next hb2 hHeld.2.2⟩ (fun _ => ?_)
  clear hK K
  (repeat (first | (refine wpTree.take (v := undef) (Or.inr ⟨by rfl, rfl⟩) ?_; simp only [Act.put, List.setIfInBounds_toArray, List.set_cons_zero, List.set_cons_succ]) | (refine wpTree.take (v := ?_) (Or.inl ⟨by rfl, ?_⟩) ?_; rotate_left; (focus (intro _ hS; (try dsimp only at hS); go_split_ands; (try subst hS); go_simp; (try (with_reducible rfl)); done)); simp only [Act.put, List.setIfInBounds_toArray, List.set_cons_zero, List.set_cons_succ])))
  refine wpTree.done ?_
  have HF := Lib.hid ((HB1.out.alloc HB1.out.size (.cells #[.int .i64 l.nd, .int .u32 (k : Nat)] 133)).drew.trans (hb2.mono (by simp; exact Nat.le_succ_of_le HB1.out.size)))
  clear hb2 hHeld
  go_wp2_with fail
  go_ret
  exact ⟨by rfl, HF.out⟩
theorem isnext_any (l : Lab) (W : World) : Calls Try.prog 63 #[.agg l.cells.toArray] W fun e W' => e = .returned (.bool (nextB l)) ∧ Below W.heap.size W W' := by
  cases h : nextB l with
  | true => exact isnext_good l W l.n true (next_yes h) (decide_eq_true rfl)
  | false =>
    rcases next_no h with h1 | h1 | ⟨k, h1, h2⟩
    · exact isnext_bad l W _ _ _ rfl (Or.inl h1)
    · exact isnext_bad l W _ _ _ rfl (Or.inr h1)
    · exact isnext_good l W k false h1 (decide_eq_false (by omega))

/-- A label's past. -/
def timeB (t : Nat) : Bool := decide (1 ≤ t) && decide (t ≤ 1099511627776)
def placeB (ca se : Int) : Bool := decide (1 ≤ ca) && decide (ca ≤ 12) && decide (0 ≤ se) && decide (se ≤ 12)
/-- May a label be? -/
def rightL (l : Lab) : Bool := timeB l.t && placeB l.ca l.se && nextB l && decide (maxK l.f 11 ≤ 1048576)
theorem time_cases (t : Nat) : (timeB t = true ∧ decide (1 ≤ (t : Int)) = true ∧ decide ((t : Int) ≤ 1099511627776) = true) ∨ (timeB t = false ∧ decide (1 ≤ (t : Int)) = true ∧ decide ((t : Int) ≤ 1099511627776) = false) ∨ (timeB t = false ∧ decide (1 ≤ (t : Int)) = false) := by
  unfold timeB
  by_cases h1 : 1 ≤ t
  · by_cases h2 : t ≤ 1099511627776
    · exact Or.inl ⟨by simp [h1, h2], by simp; omega, by simp; omega⟩
    · exact Or.inr (Or.inl ⟨by simp [h2], by simp; omega, by simp; omega⟩)
  · exact Or.inr (Or.inr ⟨by simp [h1], by simp; omega⟩)
theorem place_cases (ca se : Int) : (placeB ca se = true ∧ decide (1 ≤ ca) = true ∧ decide (ca ≤ 12) = true ∧ decide (0 ≤ se) = true ∧ decide (se ≤ 12) = true) ∨ (placeB ca se = false ∧ decide (1 ≤ ca) = false)
    ∨ (placeB ca se = false ∧ decide (1 ≤ ca) = true ∧ decide (ca ≤ 12) = false) ∨ (placeB ca se = false ∧ decide (1 ≤ ca) = true ∧ decide (ca ≤ 12) = true ∧ decide (0 ≤ se) = false)
    ∨ (placeB ca se = false ∧ decide (1 ≤ ca) = true ∧ decide (ca ≤ 12) = true ∧ decide (0 ≤ se) = true ∧ decide (se ≤ 12) = false) := by
  unfold placeB
  cases h1 : decide (1 ≤ ca)
  · simp
  · cases h2 : decide (ca ≤ 12)
    · simp
    · cases h3 : decide (0 ≤ se)
      · simp
      · cases h4 : decide (se ≤ 12) <;> simp

theorem wpList_load_midg {P : Program} {ops : Array Oper} {rest : List Oper} {op : Oper} {a : Act} {w : World} {Q : Exit → Act → World → Prop} (hw : Region.wanted op (yielded ops a.tmps) = true) (ty : TypeId) (x : Operand) (ho : op.op = .load ty x)
    (b o : Nat) (hx : a.eval x = .pointer (some ⟨b, o, none⟩)) (cs : List Value) (d : TypeDesc) (hc : w.rangeAt b o cs)
    (hu : P.underlying ty = some d) (hd : d.isRow = true) (hi : (P.info? ty).map (·.size) = some cs.length)
    (h : wpList P ops Q rest (a.put op.dst (.agg cs.toArray)) w) : wpList P ops Q (op :: rest) a w :=
  wpList_step fun _ hK => by
    rw [if_pos hw]
    exact wp_load_mid ty x ho b o hx cs d hc hu hd hi (hK _ _ h)

section
variable (l : Lab) (W : World)
set_option maxRecDepth 20000 in
set_option maxHeartbeats 4000000 in
theorem right_no (h : timeB l.t = false ∨ placeB l.ca l.se = false) : Calls Try.prog 41 #[.agg l.cells.toArray] W fun e W' => e = .returned (.bool false) ∧ Below W.heap.size W W' := by
  have bA := Blk.new W 55 l.cells.toArray
  have hsz : (W.alloc (.cells l.cells.toArray 55)).heap.size = W.heap.size + 1 := by simp
  have hB0 := Lib.hid ((Below.refl W.heap.size W).alloc (Nat.le_refl _) (.cells l.cells.toArray 55))
  have hLA := lab_all bA
  obtain ⟨ra, va, a0, a1, a2, a3, a4⟩ := hLA
  clear bA ra va a1 a2
  rcases time_cases l.t with ⟨q, t1, t2⟩ | ⟨q, t1, t2⟩ | ⟨q, t1⟩
  all_goals rcases place_cases l.ca l.se with ⟨q', c1, c2, c3, c4⟩ | ⟨q', c1⟩ | ⟨q', c1, c2⟩ | ⟨q', c1, c2, c3⟩ | ⟨q', c1, c2, c3, c4⟩
  all_goals first | (exact absurd (h.elim (fun h => q.symm.trans h) (fun h => q'.symm.trans h)) (by decide)) | skip
  all_goals
    clear h q q'
    go_enter Try.func41, Try.ntmps41
    go_wp2_with fail
    go_ret
    exact ⟨by rfl, hB0.out⟩

set_option maxRecDepth 20000 in
set_option maxHeartbeats 4000000 in
theorem right_yes (t1 : decide (1 ≤ (l.t : Int)) = true) (t2 : decide ((l.t : Int) ≤ 1099511627776) = true) (c1 : decide (1 ≤ l.ca) = true) (c2 : decide (l.ca ≤ 12) = true) (c3 : decide (0 ≤ l.se) = true) (c4 : decide (l.se ≤ 12) = true) :
    Calls Try.prog 41 #[.agg l.cells.toArray] W fun e W' => e = .returned (.bool (nextB l && decide (maxK l.f 11 ≤ 1048576))) ∧ Below W.heap.size W W' := by
  have bA := Blk.new W 55 l.cells.toArray
  have hsz : (W.alloc (.cells l.cells.toArray 55)).heap.size = W.heap.size + 1 := by simp
  have hB0 := Lib.hid ((Below.refl W.heap.size W).alloc (Nat.le_refl _) (.cells l.cells.toArray 55))
  have hLA := lab_all bA
  obtain ⟨ra, va, a0, a1, a2, a3, a4⟩ := hLA
  cases hn : nextB l with
  | false =>
    rw [Bool.false_and]
    clear bA va a1 a2
    go_enter Try.func41, Try.ntmps41
    go_wp2_with (first | (refine wpList_load_midg (by rfl) 55 _ rfl _ _ rfl (Lab.cells ?_) _ ?_ Try.underlying55 rfl (linfo _) ?_; rotate_left; (focus assumption)) | (go_at_call 63; refine (isnext_any _ _).mono ?_; rintro e W1 ⟨rfl, hb⟩; rw [hn]; have HF := Lib.hid (hB0.out.trans (hb.mono hB0.out.size)); clear hb))
    go_ret
    exact ⟨by rfl, HF.out⟩
  | true =>
    rw [Bool.true_and]
    clear bA a1 a2
    go_enter Try.func41, Try.ntmps41
    go_wp2_with (first | (refine wpList_load_midg (by rfl) 55 _ rfl _ _ rfl (Lab.cells ?_) _ ?_ Try.underlying55 rfl (linfo _) ?_; rotate_left; (focus assumption)) | (go_at_call 63; refine (isnext_any _ _).mono ?_; rintro e W1 ⟨rfl, hb⟩; rw [hn]; have HF := Lib.hid (hB0.out.trans (hb.mono hB0.out.size)); have va1 := vrange_next hb va; clear hb) | (go_at_call 64; refine (max_any l.f _ 5 _ va1).mono ?_; rintro e W2 ⟨rfl, rfl⟩))
    go_ret
    exact ⟨ret_bool (decide_eq_decide.2 (by omega)), HF.out⟩
theorem lright_any : Calls Try.prog 41 #[.agg l.cells.toArray] W fun e W' => e = .returned (.bool (rightL l)) ∧ Below W.heap.size W W' := by
  have hr : rightL l = (timeB l.t && placeB l.ca l.se && nextB l && decide (maxK l.f 11 ≤ 1048576)) := rfl
  by_cases h1 : timeB l.t = true
  · by_cases h2 : placeB l.ca l.se = true
    · rw [hr, h1, h2, Bool.true_and, Bool.true_and]
      rcases time_cases l.t with ⟨_, t1, t2⟩ | ⟨q, _⟩ | ⟨q, _⟩
      · rcases place_cases l.ca l.se with ⟨_, c1, c2, c3, c4⟩ | ⟨q, _⟩ | ⟨q, _⟩ | ⟨q, _⟩ | ⟨q, _⟩
        · exact right_yes l W t1 t2 c1 c2 c3 c4
        all_goals exact absurd (q.symm.trans h2) (by decide)
      all_goals exact absurd (q.symm.trans h1) (by decide)
    · have h2' : placeB l.ca l.se = false := by simpa using h2
      rw [hr, h1, h2', Bool.true_and, Bool.false_and, Bool.false_and]
      exact right_no l W (Or.inr h2')
  · have h1' : timeB l.t = false := by simpa using h1
    rw [hr, h1', Bool.false_and, Bool.false_and, Bool.false_and]
    exact right_no l W (Or.inl h1')
end
end Go.Proofs.Ytohnhokddbeheaa

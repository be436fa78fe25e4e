/-
Labels: their cells; Dot, Past, Before, isNext.
cmp.Compare, cmp.Or; Less.
label.Less.
-/
import Derived.Test.YtpimhohballafaaOpens
import Derived.Test.YtpimhohballafaaCalls4
namespace Go.Proofs.Ytpimhohballafaa
open Go.RowKit

/-- A label. -/
structure Lab where
  (t : Nat)
  (nd : Int)
  (n : Nat)
  (ca se : Int)
  (f : Nat → Nat)
def Lab.cells (l : Lab) : List Value := [.int .u64 (l.t : Nat), .int .i64 l.nd, .int .u32 (l.n : Nat), .int .i64 l.ca, .int .i64 l.se] ++ vl l.f
section
variable {l : Lab}
theorem lab_0 : l.cells[0]? = some (.int .u64 (l.t : Nat)) := rfl
theorem lab_1 : l.cells[1]? = some (.int .i64 l.nd) := rfl
theorem lab_2 : l.cells[2]? = some (.int .u32 (l.n : Nat)) := rfl
theorem lab_3 : l.cells[3]? = some (.int .i64 l.ca) := rfl
theorem lab_4 : l.cells[4]? = some (.int .i64 l.se) := rfl
theorem lab_5 (j : Nat) : l.cells[5 + j]? = (vl l.f)[j]? := by
  unfold Lab.cells; rw [List.getElem?_append_right (by simp)]; simp
theorem lab_len : l.cells.length = 17 := by unfold Lab.cells; rw [List.length_append, vl_len]; rfl
end
attribute [irreducible] Lab.cells
theorem linfo (l : Lab) : (Try.prog.info? 27).map (·.size) = some l.cells.length := by rw [lab_len]; kernel_rfl
theorem linfoA (l : Lab) : (Try.prog.info? 27).map (·.size) = some l.cells.toArray.size := by rw [List.size_toArray, lab_len]; kernel_rfl
/-- A box that holds a label. -/
theorem lab_all {W : World} {b : Nat} {t : TypeId} {l : Lab} (h : Blk W b t l.cells.toArray) : W.rangeAt b 0 ((l).cells) ∧ W.rangeAt b 5 (vl (l).f) ∧ W.cell? ⟨b, 0, none⟩ = some (.int .u64 ((l).t : Nat)) ∧ W.cell? ⟨b, 1, none⟩ = some (.int .i64 (l).nd) ∧ W.cell? ⟨b, 2, none⟩ = some (.int .u32 ((l).n : Nat)) ∧ W.cell? ⟨b, 3, none⟩ = some (.int .i64 (l).ca) ∧ W.cell? ⟨b, 4, none⟩ = some (.int .i64 (l).se) := by
  have hc : ∀ i, W.cell? ⟨b, i, none⟩ = l.cells[i]? := fun i => by rw [h.cell, List.getElem?_toArray]
  refine ⟨h.range, fun j v hv => ?_, (hc 0).trans lab_0, (hc 1).trans lab_1, (hc 2).trans lab_2, (hc 3).trans lab_3, (hc 4).trans lab_4⟩
  rw [hc, lab_5, hv]

set_option maxRecDepth 20000 in
theorem dot_any (l : Lab) (W : World) : Calls Try.prog 18 #[.agg l.cells.toArray] W fun e W' => e = .returned (.agg #[.int .i64 l.nd, .int .u32 (l.n : Nat)]) ∧ Below W.heap.size W W' := by
  have b0 : Below W.heap.size W (W.alloc (.cells l.cells.toArray 27)) := (Below.refl _ W).alloc (Nat.le_refl _) _
  have q1 := lab_1 (l := l)
  have q2 := lab_2 (l := l)
  go_enter Try.func18, Try.ntmps18
  go_wp2_with fail
  all_goals
    refine bodyPost_ret (v := .agg #[.int .i64 l.nd, .int .u32 (l.n : Nat)]) (by simp [results, Try.results18, go_sem]) rfl ⟨rfl, by (repeat' (first | exact Below.refl _ _ | assumption | (with_reducible refine below_alloc' ?_) | (with_reducible refine Below.drew ?_) | (with_reducible refine below_next' (by assumption) ?_) | (with_reducible refine below_setRow ?_ ?_ _) | (with_reducible refine Below.setCell ?_ ?_ _) | (with_reducible refine below_next (by assumption) ?_ ?_) | (with_reducible refine Below.alloc ?_ ?_ _) | exact Nat.le_refl _ | (exact below_size (by assumption)) | (with_reducible refine size_alloc ?_) | (with_reducible refine size_setRow' ?_) | (with_reducible refine size_setCell' ?_) | (with_reducible refine size_next (by assumption) ?_) | omega | (simp; done) | (simp; omega)))⟩

/-- May a label's dot be the next one? -/
def nextB (l : Lab) : Bool := nodeB l.nd && decide (getN l.f l.nd < 1048576) && decide (l.n = getN l.f l.nd + 1)
attribute [irreducible] nextB

/-- The greatest number of a vector. -/
def maxK (f : Nat → Nat) : Nat → Nat
  | 0 => f 0
  | k + 1 => max (maxK f k) (f (k + 1))
theorem maxK_le (f : Nat → Nat) (M : Nat) : ∀ k, maxK f k ≤ M ↔ ∀ i, i ≤ k → f i ≤ M
  | 0 => ⟨fun h i hi => by obtain rfl : i = 0 := by omega
                           exact h, fun h => h 0 (Nat.le_refl _)⟩
  | k + 1 => by
    unfold maxK
    have ih := maxK_le f M k
    constructor
    · intro h i hi
      by_cases h1 : i = k + 1
      · subst h1; omega
      · exact ih.1 (by omega) i (by omega)
    · intro h
      have h1 := h (k + 1) (Nat.le_refl _)
      have h2 := ih.2 fun i hi => h i (by omega)
      omega
def MaxFar (f : Nat → Nat) (k : Nat) (x : Value) : Prop := x = .int .u32 (maxK f k : Nat)
set_option maxRecDepth 20000 in
set_option maxHeartbeats 1000000 in
theorem max_any (f : Nat → Nat) (b o : Nat) (W : World) (h : W.rangeAt b o (vl f)) :
    Calls Try.prog 48 #[.slice (some ⟨b, o, none⟩) 12 12] W fun e W' => e = .returned (.int .u32 (maxK f 11 : Nat)) ∧ W = W' := by
  have H := Lib.hid h
  have c0 := h 0 _ (vl_get (f := f) (k := 0) (by omega))
  rw [Nat.add_zero] at c0
  clear h
  go_enter Try.func48, Try.ntmps48
  go_wp2_with fail
  go_loop [3, 4] (fun x i => ∃ k : Nat, k ≤ 11 ∧ i = .int .i64 ((k : Int) + 1) ∧ MaxFar f k x) (fun _ i => 12 - (intOf i).toNat)
  case atStart => exact ⟨0, Nat.zero_le _, rfl, rfl⟩
  case round =>
    obtain ⟨k, hk, rfl, hx⟩ := hrel
    unfold MaxFar at hx
    subst hx
    by_cases hlt : k < 11
    · have h1 : (k : Int) + 1 < 12 := by omega
      have h2 : ((k : Int) + 1).toNat = k + 1 := by omega
      have ck := H.out (k + 1) _ (vl_get (f := f) (k := k + 1) (by omega))
      have hm : max (maxK f k : Int) (f (k + 1) : Int) = (maxK f (k + 1) : Nat) := by show _ = ((max (maxK f k) (f (k + 1)) : Nat) : Int); omega
      have HM := Lib.hid hm
      clear hm c0
      go_wp2_with fail
      go_round
      case rel => exact ⟨k + 1, by omega, by go_num, by unfold MaxFar; rw [← HM.out]⟩
      case measure => simp [intOf]; omega
    · obtain rfl : k = 11 := by omega
      clear c0 hlt
      go_wp2_with fail
      go_ret
      exact ⟨rfl, rfl⟩
end Go.Proofs.Ytpimhohballafaa
namespace Go.Proofs.Ytpimhohballafaa
open Go.RowKit

/-- How two numbers stand. -/
def cmpI (a b : Int) : Int := if a < b then -1 else if b < a then 1 else 0
theorem nan64_any (x : Int) (W : World) : Calls Try.prog 80 #[.int .u64 x] W fun e W' => e = .returned (.bool false) ∧ W = W' := by
  go_enter Try.func80, Try.ntmps80
  go_wp2_with fail
  go_ret
  exact ⟨by simp, rfl⟩
theorem nani_any (x : Int) (W : World) : Calls Try.prog 81 #[.int .i64 x] W fun e W' => e = .returned (.bool false) ∧ W = W' := by
  go_enter Try.func81, Try.ntmps81
  go_wp2_with fail
  go_ret
  exact ⟨by simp, rfl⟩
theorem nan32_any (x : Int) (W : World) : Calls Try.prog 82 #[.int .u32 x] W fun e W' => e = .returned (.bool false) ∧ W = W' := by
  go_enter Try.func82, Try.ntmps82
  go_wp2_with fail
  go_ret
  exact ⟨by simp, rfl⟩

theorem cmp64_any (x y : Int) (W : World) : Calls Try.prog 44 #[.int .u64 x, .int .u64 y] W fun e W' => e = .returned (.int .i64 (cmpI x y)) ∧ W = W' := by
  by_cases h1 : x < y
  · have H := Lib.hid (show cmpI x y = -1 from if_pos h1)
    have h2 : ¬ y < x := by omega
    have e1 : decide (x < y) = true := by simp; omega
    have e2 : decide (y < x) = false := by simp; omega
    have e3 : decide (x > y) = false := e2
    clear h1 h2
    go_enter Try.func44, Try.ntmps44
    go_wp2_with (go_at_call 80; refine (nan64_any _ _).mono ?_; rintro e W1 ⟨rfl, rfl⟩)
    go_ret
    exact ⟨by rw [H.out]; rfl, rfl⟩
  · by_cases h2 : y < x
    · have H := Lib.hid (show cmpI x y = 1 from (if_neg h1).trans (if_pos h2))
      have e1 : decide (x < y) = false := by simp; omega
      have e2 : decide (y < x) = true := by simp; omega
      have e3 : decide (x > y) = true := e2
      clear h1 h2
      go_enter Try.func44, Try.ntmps44
      go_wp2_with (go_at_call 80; refine (nan64_any _ _).mono ?_; rintro e W1 ⟨rfl, rfl⟩)
      go_ret
      exact ⟨by rw [H.out]; rfl, rfl⟩
    · have H := Lib.hid (show cmpI x y = 0 from (if_neg h1).trans (if_neg h2))
      have e1 : decide (x < y) = false := by simp; omega
      have e2 : decide (y < x) = false := by simp; omega
      have e3 : decide (x > y) = false := e2
      clear h1 h2
      go_enter Try.func44, Try.ntmps44
      go_wp2_with (go_at_call 80; refine (nan64_any _ _).mono ?_; rintro e W1 ⟨rfl, rfl⟩)
      go_ret
      exact ⟨by rw [H.out]; rfl, rfl⟩
theorem cmpi_any (x y : Int) (W : World) : Calls Try.prog 45 #[.int .i64 x, .int .i64 y] W fun e W' => e = .returned (.int .i64 (cmpI x y)) ∧ W = W' := by
  by_cases h1 : x < y
  · have H := Lib.hid (show cmpI x y = -1 from if_pos h1)
    have h2 : ¬ y < x := by omega
    have e1 : decide (x < y) = true := by simp; omega
    have e2 : decide (y < x) = false := by simp; omega
    have e3 : decide (x > y) = false := e2
    clear h1 h2
    go_enter Try.func45, Try.ntmps45
    go_wp2_with (go_at_call 81; refine (nani_any _ _).mono ?_; rintro e W1 ⟨rfl, rfl⟩)
    go_ret
    exact ⟨by rw [H.out]; rfl, rfl⟩
  · by_cases h2 : y < x
    · have H := Lib.hid (show cmpI x y = 1 from (if_neg h1).trans (if_pos h2))
      have e1 : decide (x < y) = false := by simp; omega
      have e2 : decide (y < x) = true := by simp; omega
      have e3 : decide (x > y) = true := e2
      clear h1 h2
      go_enter Try.func45, Try.ntmps45
      go_wp2_with (go_at_call 81; refine (nani_any _ _).mono ?_; rintro e W1 ⟨rfl, rfl⟩)
      go_ret
      exact ⟨by rw [H.out]; rfl, rfl⟩
    · have H := Lib.hid (show cmpI x y = 0 from (if_neg h1).trans (if_neg h2))
      have e1 : decide (x < y) = false := by simp; omega
      have e2 : decide (y < x) = false := by simp; omega
      have e3 : decide (x > y) = false := e2
      clear h1 h2
      go_enter Try.func45, Try.ntmps45
      go_wp2_with (go_at_call 81; refine (nani_any _ _).mono ?_; rintro e W1 ⟨rfl, rfl⟩)
      go_ret
      exact ⟨by rw [H.out]; rfl, rfl⟩
theorem cmp32_any (x y : Int) (W : World) : Calls Try.prog 46 #[.int .u32 x, .int .u32 y] W fun e W' => e = .returned (.int .i64 (cmpI x y)) ∧ W = W' := by
  by_cases h1 : x < y
  · have H := Lib.hid (show cmpI x y = -1 from if_pos h1)
    have h2 : ¬ y < x := by omega
    have e1 : decide (x < y) = true := by simp; omega
    have e2 : decide (y < x) = false := by simp; omega
    have e3 : decide (x > y) = false := e2
    clear h1 h2
    go_enter Try.func46, Try.ntmps46
    go_wp2_with (go_at_call 82; refine (nan32_any _ _).mono ?_; rintro e W1 ⟨rfl, rfl⟩)
    go_ret
    exact ⟨by rw [H.out]; rfl, rfl⟩
  · by_cases h2 : y < x
    · have H := Lib.hid (show cmpI x y = 1 from (if_neg h1).trans (if_pos h2))
      have e1 : decide (x < y) = false := by simp; omega
      have e2 : decide (y < x) = true := by simp; omega
      have e3 : decide (x > y) = true := e2
      clear h1 h2
      go_enter Try.func46, Try.ntmps46
      go_wp2_with (go_at_call 82; refine (nan32_any _ _).mono ?_; rintro e W1 ⟨rfl, rfl⟩)
      go_ret
      exact ⟨by rw [H.out]; rfl, rfl⟩
    · have H := Lib.hid (show cmpI x y = 0 from (if_neg h1).trans (if_neg h2))
      have e1 : decide (x < y) = false := by simp; omega
      have e2 : decide (y < x) = false := by simp; omega
      have e3 : decide (x > y) = false := e2
      clear h1 h2
      go_enter Try.func46, Try.ntmps46
      go_wp2_with (go_at_call 82; refine (nan32_any _ _).mono ?_; rintro e W1 ⟨rfl, rfl⟩)
      go_ret
      exact ⟨by rw [H.out]; rfl, rfl⟩

/-- The first of four numbers that is no nought. -/
def orK (v : Nat → Int) : Nat → Nat → Int
  | 0, _ => 0
  | n + 1, k => if v k = 0 then orK v n (k + 1) else v k
theorem vs_get {v : Nat → Int} : ∀ {k : Nat}, k < 4 → [Value.int .i64 (v 0), .int .i64 (v 1), .int .i64 (v 2), .int .i64 (v 3)][k]? = some (.int .i64 (v k))
  | 0, _ => rfl
  | 1, _ => rfl
  | 2, _ => rfl
  | 3, _ => rfl
set_option maxRecDepth 20000 in
set_option maxHeartbeats 1000000 in
theorem or_any (v : Nat → Int) (b o : Nat) (W : World) (h : W.rangeAt b o [.int .i64 (v 0), .int .i64 (v 1), .int .i64 (v 2), .int .i64 (v 3)]) :
    Calls Try.prog 43 #[.slice (some ⟨b, o, none⟩) 4 4] W fun e W' => e = .returned (.int .i64 (orK v 4 0)) ∧ W = W' := by
  have H := Lib.hid h
  clear h
  go_enter Try.func43, Try.ntmps43
  go_wp2_with fail
  go_loop [8] (fun i => ∃ k : Nat, k ≤ 4 ∧ i = .int .i64 (k : Int) ∧ Hid (orK v 4 0 = orK v (4 - k) k)) (fun i => 4 - (intOf i).toNat)
  case atStart => exact ⟨0, Nat.zero_le _, rfl, Lib.hid rfl⟩
  case round =>
    obtain ⟨k, hk, rfl, hx⟩ := hrel
    by_cases hlt : k < 4
    · have h1 : (k : Int) < 4 := by omega
      have h2 : (k : Int).toNat = k := by omega
      have ck := H.out k _ (vs_get (v := v) hlt)
      have h3 : orK v (4 - k) k = if v k = 0 then orK v (4 - (k + 1)) (k + 1) else v k := by
        rw [show 4 - k = (4 - (k + 1)) + 1 by omega]; rfl
      by_cases hz : v k = 0
      · have hy := Lib.hid (hx.out.trans (h3.trans (if_pos hz)))
        rw [hz] at ck
        clear hx h3 hz
        go_wp2_with fail
        go_round
        case rel => exact ⟨k + 1, by omega, by go_num, hy⟩
        case measure => simp [intOf]; omega
      · have hy := Lib.hid (hx.out.trans (h3.trans (if_neg hz)))
        obtain ⟨z, hvz⟩ : ∃ z, z = v k := ⟨_, rfl⟩
        rw [← hvz] at ck hz hy
        have n1 : (z != 0) = true := by simpa using hz
        have n2 : (z == 0) = false := by simpa using hz
        clear hx h3 hvz
        go_wp2_with fail
        go_ret
        exact ⟨by rw [hy.out]; rfl, rfl⟩
    · obtain rfl : k = 4 := by omega
      clear hlt
      go_wp2_with fail
      go_ret
      exact ⟨by rw [hx.out]; rfl, rfl⟩
end Go.Proofs.Ytpimhohballafaa
namespace Go.Proofs.Ytpimhohballafaa
open Go.RowKit

/-- How two labels stand, by one part after the other. -/
def cmpV (a b : Lab) : Nat → Int
  | 0 => cmpI (a.t : Nat) (b.t : Nat)
  | 1 => cmpI a.nd b.nd
  | 2 => cmpI a.ca b.ca
  | _ => cmpI (a.n : Nat) (b.n : Nat)
def lessB (a b : Lab) : Bool := decide (orK (cmpV a b) 4 0 < 0)

set_option maxRecDepth 20000 in
set_option maxHeartbeats 4000000 in
theorem less_any (a b : Lab) (W : World) :
    Calls Try.prog 12 #[.agg a.cells.toArray, .agg b.cells.toArray] W fun e W' => e = .returned (.bool (lessB a b)) ∧ Below W.heap.size W W' := by
  have bA := Blk.new W 27 a.cells.toArray
  have bB := Blk.new (W.alloc (.cells a.cells.toArray 27)) 27 b.cells.toArray
  have bA' := bA.alloc (.cells b.cells.toArray 27)
  have hsz : (W.alloc (.cells a.cells.toArray 27)).heap.size = W.heap.size + 1 := by simp
  rw [hsz] at bB
  have hB0 := Lib.hid ((((Below.refl W.heap.size W).alloc (Nat.le_refl _) (.cells a.cells.toArray 27)).alloc (by rw [hsz]; omega) (.cells b.cells.toArray 27)))
  have hLA := lab_all bA'
  have hLB := lab_all bB
  obtain ⟨ra, va, a0, a1, a2, a3, a4⟩ := hLA
  obtain ⟨rb, vb, b0, b1, b2, b3, b4⟩ := hLB
  clear ra va rb vb bA bB bA'
  go_enter Try.func12, Try.ntmps12
  go_wp2_with fail
  refine wp_region_tree (S := (fun W' => W'.cell? ⟨W.heap.size, 0, none⟩ = some (.int .u64 (a.t : Nat)) ∧ W'.cell? ⟨W.heap.size, 1, none⟩ = some (.int .i64 a.nd) ∧ W'.cell? ⟨W.heap.size, 2, none⟩ = some (.int .u32 (a.n : Nat)) ∧ W'.cell? ⟨W.heap.size, 3, none⟩ = some (.int .i64 a.ca) ∧ W'.cell? ⟨W.heap.size + 1, 0, none⟩ = some (.int .u64 (b.t : Nat)) ∧ W'.cell? ⟨W.heap.size + 1, 1, none⟩ = some (.int .i64 b.nd) ∧ W'.cell? ⟨W.heap.size + 1, 2, none⟩ = some (.int .u32 (b.n : Nat)) ∧ W'.cell? ⟨W.heap.size + 1, 3, none⟩ = some (.int .i64 b.ca))) (.take 0 (.take 1 (.take 2 (.take 3 (.take 5 (.take 6 (.take 7 (.take 8 (.take 10 (.take 11 (.take 12 (.take 13 (.take 15 (.take 16 (.take 17 (.take 18 (.one 4 (.one 9 (.one 14 (.one 19 (.one 20 (.one 21 (.take 22 (.take 23 .nil)))))))))))))))))))))))) 9999 (by kernel_rfl) (by kernel_rfl) (by kernel_rfl) (by kernel_rfl) (by kernel_rfl) (fun _ _ d _ _ h => by cases d <;> exact h) ?_ (fun hHeld => ?_); (focus (exact ⟨a0, a1, a2, a3, b0, b1, b2, b3⟩)); simp only [Tree.map, List.getElem?_toArray, List.getElem?_cons_zero, List.getElem?_cons_succ]
  (repeat (first | (refine wpTree.take (v := undef) (Or.inr ⟨by rfl, rfl⟩) ?_; simp only [Act.put, List.setIfInBounds_toArray, List.set_cons_zero, List.set_cons_succ]) | (refine wpTree.take (v := ?_) (Or.inl ⟨by rfl, ?_⟩) ?_; rotate_left; (focus (intro _ hS; (try dsimp only at hS); go_split_ands; (try subst hS); go_simp; (try (with_reducible rfl)); done)); simp only [Act.put, List.setIfInBounds_toArray, List.set_cons_zero, List.set_cons_succ])))
  refine wpTree.one (fun K hK => ?_)
  go_simp
  go_at_call 44
  refine (cmp64_any _ _ _).mono ?_
  rintro e w1 ⟨rfl, rfl⟩
  refine hK.out _ _ hHeld (fun _ => ?_)
  clear hK K
  (repeat (first | (refine wpTree.take (v := undef) (Or.inr ⟨by rfl, rfl⟩) ?_; simp only [Act.put, List.setIfInBounds_toArray, List.set_cons_zero, List.set_cons_succ]) | (refine wpTree.take (v := ?_) (Or.inl ⟨by rfl, ?_⟩) ?_; rotate_left; (focus (intro _ hS; (try dsimp only at hS); go_split_ands; (try subst hS); go_simp; (try (with_reducible rfl)); done)); simp only [Act.put, List.setIfInBounds_toArray, List.set_cons_zero, List.set_cons_succ])))
  refine wpTree.one (fun K hK => ?_)
  go_simp
  go_at_call 45
  refine (cmpi_any _ _ _).mono ?_
  rintro e w1 ⟨rfl, rfl⟩
  refine hK.out _ _ hHeld (fun _ => ?_)
  clear hK K
  (repeat (first | (refine wpTree.take (v := undef) (Or.inr ⟨by rfl, rfl⟩) ?_; simp only [Act.put, List.setIfInBounds_toArray, List.set_cons_zero, List.set_cons_succ]) | (refine wpTree.take (v := ?_) (Or.inl ⟨by rfl, ?_⟩) ?_; rotate_left; (focus (intro _ hS; (try dsimp only at hS); go_split_ands; (try subst hS); go_simp; (try (with_reducible rfl)); done)); simp only [Act.put, List.setIfInBounds_toArray, List.set_cons_zero, List.set_cons_succ])))
  refine wpTree.one (fun K hK => ?_)
  go_simp
  go_at_call 45
  refine (cmpi_any _ _ _).mono ?_
  rintro e w1 ⟨rfl, rfl⟩
  refine hK.out _ _ hHeld (fun _ => ?_)
  clear hK K
  (repeat (first | (refine wpTree.take (v := undef) (Or.inr ⟨by rfl, rfl⟩) ?_; simp only [Act.put, List.setIfInBounds_toArray, List.set_cons_zero, List.set_cons_succ]) | (refine wpTree.take (v := ?_) (Or.inl ⟨by rfl, ?_⟩) ?_; rotate_left; (focus (intro _ hS; (try dsimp only at hS); go_split_ands; (try subst hS); go_simp; (try (with_reducible rfl)); done)); simp only [Act.put, List.setIfInBounds_toArray, List.set_cons_zero, List.set_cons_succ])))
  refine wpTree.one (fun K hK => ?_)
  go_simp
  go_at_call 46
  refine (cmp32_any _ _ _).mono ?_
  rintro e w1 ⟨rfl, rfl⟩
  refine hK.out _ _ hHeld (fun _ => ?_)
  clear hK K
  (repeat (first | (refine wpTree.take (v := undef) (Or.inr ⟨by rfl, rfl⟩) ?_; simp only [Act.put, List.setIfInBounds_toArray, List.set_cons_zero, List.set_cons_succ]) | (refine wpTree.take (v := ?_) (Or.inl ⟨by rfl, ?_⟩) ?_; rotate_left; (focus (intro _ hS; (try dsimp only at hS); go_split_ands; (try subst hS); go_simp; (try (with_reducible rfl)); done)); simp only [Act.put, List.setIfInBounds_toArray, List.set_cons_zero, List.set_cons_succ])))
  have hS4 := hHeld
  refine wpTree.one (fun K hK => ?_)
  go_simp
  (try (go_wp2_with fail))
  refine hK.out _ _ ?_ (fun _ => ?_)
  · (go_split_ands; (repeat' (refine And.intro ?_ ?_)); all_goals (first | assumption | ((repeat' (first | assumption | (with_reducible refine cell_drew ?_) | (with_reducible refine cell_next (by assumption) ?_) | ((with_reducible refine cell_new ?_ ?_); (focus (first | rfl | (simp; done))); (focus rfl)) | (with_reducible refine cell_alloc ?_))); done) | ((repeat' (first | assumption | (with_reducible refine (World.rangeAt_drew _ _ _ _).2 ?_) | (with_reducible refine vrange_next (by assumption) ?_) | (refine Blk.range (t := 25) ?_; (first | assumption | ((repeat' (first | assumption | ((with_reducible refine Blk.new' ?_); (first | rfl | (simp; done))) | ((with_reducible refine Blk.newRow ?_); (first | rfl | (simp; done))) | ((with_reducible refine Blk.farRow ?_ ?_ _); rotate_left; (first | (simp; done) | (simp; omega) | omega)) | (with_reducible refine Blk.alloc ?_ _) | (with_reducible refine Blk.drew ?_) | ((with_reducible refine Blk.far ?_ ?_ _); rotate_left; (first | (simp; done) | (simp; omega) | omega)) | (with_reducible refine Blk.next' (by assumption) ?_))); done))) | (with_reducible refine World.rangeAt_alloc ?_ _))); done) | ((repeat' (first | exact Below.refl _ _ | assumption | (with_reducible refine below_alloc' ?_) | (with_reducible refine Below.drew ?_) | (with_reducible refine below_next' (by assumption) ?_) | (with_reducible refine below_setRow ?_ ?_ _) | (with_reducible refine Below.setCell ?_ ?_ _) | (with_reducible refine below_next (by assumption) ?_ ?_) | (with_reducible refine Below.alloc ?_ ?_ _) | exact Nat.le_refl _ | (exact below_size (by assumption)) | (with_reducible refine size_alloc ?_) | (with_reducible refine size_setRow' ?_) | (with_reducible refine size_setCell' ?_) | (with_reducible refine size_next (by assumption) ?_) | omega | (simp; done) | (simp; omega))); done)))
  clear hK K
  (repeat (first | (refine wpTree.take (v := undef) (Or.inr ⟨by rfl, rfl⟩) ?_; simp only [Act.put, List.setIfInBounds_toArray, List.set_cons_zero, List.set_cons_succ]) | (refine wpTree.take (v := ?_) (Or.inl ⟨by rfl, ?_⟩) ?_; rotate_left; (focus (intro _ hS; (try dsimp only at hS); go_split_ands; (try subst hS); go_simp; (try (with_reducible rfl)); done)); simp only [Act.put, List.setIfInBounds_toArray, List.set_cons_zero, List.set_cons_succ])))
  refine wpTree.one (fun K hK => ?_)
  go_simp
  go_at_call 43
  refine (or_any (cmpV a b) _ 0 _ ((World.rangeAt_drew _ _ _ _).2 (Blk.range (t := 3) (Blk.new' (by simp))))).mono ?_
  rintro e w1 ⟨rfl, rfl⟩
  refine hK.out _ _ ?_ (fun _ => ?_)
  · (go_split_ands; (repeat' (refine And.intro ?_ ?_)); all_goals (first | assumption | ((repeat' (first | assumption | (with_reducible refine cell_drew ?_) | (with_reducible refine cell_next (by assumption) ?_) | ((with_reducible refine cell_new ?_ ?_); (focus (first | rfl | (simp; done))); (focus rfl)) | (with_reducible refine cell_alloc ?_))); done) | ((repeat' (first | assumption | (with_reducible refine (World.rangeAt_drew _ _ _ _).2 ?_) | (with_reducible refine vrange_next (by assumption) ?_) | (refine Blk.range (t := 25) ?_; (first | assumption | ((repeat' (first | assumption | ((with_reducible refine Blk.new' ?_); (first | rfl | (simp; done))) | ((with_reducible refine Blk.newRow ?_); (first | rfl | (simp; done))) | ((with_reducible refine Blk.farRow ?_ ?_ _); rotate_left; (first | (simp; done) | (simp; omega) | omega)) | (with_reducible refine Blk.alloc ?_ _) | (with_reducible refine Blk.drew ?_) | ((with_reducible refine Blk.far ?_ ?_ _); rotate_left; (first | (simp; done) | (simp; omega) | omega)) | (with_reducible refine Blk.next' (by assumption) ?_))); done))) | (with_reducible refine World.rangeAt_alloc ?_ _))); done) | ((repeat' (first | exact Below.refl _ _ | assumption | (with_reducible refine below_alloc' ?_) | (with_reducible refine Below.drew ?_) | (with_reducible refine below_next' (by assumption) ?_) | (with_reducible refine below_setRow ?_ ?_ _) | (with_reducible refine Below.setCell ?_ ?_ _) | (with_reducible refine below_next (by assumption) ?_ ?_) | (with_reducible refine Below.alloc ?_ ?_ _) | exact Nat.le_refl _ | (exact below_size (by assumption)) | (with_reducible refine size_alloc ?_) | (with_reducible refine size_setRow' ?_) | (with_reducible refine size_setCell' ?_) | (with_reducible refine size_next (by assumption) ?_) | omega | (simp; done) | (simp; omega))); done)))
  clear hK K
  (repeat (first | (refine wpTree.take (v := undef) (Or.inr ⟨by rfl, rfl⟩) ?_; simp only [Act.put, List.setIfInBounds_toArray, List.set_cons_zero, List.set_cons_succ]) | (refine wpTree.take (v := ?_) (Or.inl ⟨by rfl, ?_⟩) ?_; rotate_left; (focus (intro _ hS; (try dsimp only at hS); go_split_ands; (try subst hS); go_simp; (try (with_reducible rfl)); done)); simp only [Act.put, List.setIfInBounds_toArray, List.set_cons_zero, List.set_cons_succ])))
  refine wpTree.done ?_
  go_wp2_with fail
  go_ret
  exact ⟨rfl, (hB0.out.alloc hB0.out.size _).drew⟩
end Go.Proofs.Ytpimhohballafaa

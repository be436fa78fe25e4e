/-
ClockDots holds: a vector, of which each node has at most MaxCount, covers another one just if it covers the last dot of each of its nodes; with its next dot it covers that, and all as before. No condition.
-/
import Derived.Test.YtjloendkkmkhhaaJoins
namespace Go.Proofs.Ytjloendkkmkhhaa
open Go.ChangeShapes Go.WideShapes Go.ChangeAt Go.RowKit

def allB (f g : Nat → Nat) (k : Nat) : Bool := (List.range k).all fun i => decide (g i ≤ f i)
theorem allB_zero (f g : Nat → Nat) : allB f g 0 = true := rfl
theorem allB_succ (f g : Nat → Nat) (k : Nat) : allB f g (k + 1) = (allB f g k && decide (g k ≤ f k)) := by
  unfold allB; rw [List.range_succ, List.all_append]; simp
theorem allB_all (f g : Nat → Nat) : allB f g 12 = covB f g := by
  rw [Bool.eq_iff_iff, covB_iff]; unfold allB; simp
theorem hasB_at {f : Nat → Nat} {k m : Nat} (hk : k < 12) (h1 : 1 ≤ m) (h2 : m ≤ 1048576) : hasB f ((k : Int) + 1) m = decide (m ≤ f k) := by
  have hn := nodeB_yes (n := (k : Int) + 1) (by omega) (by omega)
  have hr : rightB ((k : Int) + 1) m = true := by unfold rightB; rw [hn]; simp; omega
  have hg : getN f ((k : Int) + 1) = f k := by unfold getN; rw [if_pos hn]; congr 1; omega
  unfold hasB; rw [hr, hg, Bool.true_and]
attribute [irreducible] allB

theorem sumK_upd (f : Nat → Nat) (k x : Nat) : ∀ n, sumK (fun i => if i = k then x else f i) n + (if k < n then f k else 0) = sumK f n + (if k < n then x else 0)
  | 0 => by simp [sumK]
  | n + 1 => by
    have ih := sumK_upd f k x n
    simp only [sumK]
    by_cases h : k = n
    · subst h
      rw [if_neg (by omega), if_neg (by omega)] at ih
      rw [if_pos rfl, if_pos (by omega), if_pos (by omega)]; omega
    · rw [if_neg (Ne.symm h)]
      by_cases h2 : k < n
      · rw [if_pos h2, if_pos h2] at ih
        rw [if_pos (by omega), if_pos (by omega)]; omega
      · rw [if_neg h2, if_neg h2] at ih
        rw [if_neg (by omega), if_neg (by omega)]; omega
theorem sumK_ext {f g : Nat → Nat} : ∀ n, (∀ i, i < n → f i = g i) → sumK f n = sumK g n
  | 0, _ => rfl
  | n + 1, h => by simp only [sumK]; rw [sumK_ext n (fun i hi => h i (by omega)), h n (by omega)]

/-- What comes of the next dot. -/
theorem next_facts {f : Nat → Nat} {node : Int} {k : Nat} (hk : k < 12) (hn : node = (k : Int) + 1) (hc : f k < 1048576) :
    hasB f node (f k + 1) = false ∧ hasB (withF f node (f k + 1)) node (f k + 1) = true ∧ ordI (withF f node (f k + 1)) f = 1 ∧ sumK (withF f node (f k + 1)) 12 = sumK f 12 + 1 ∧ (∀ i, withF f node (f k + 1) i ≤ max (f i) 1048576) := by
  subst hn
  have hnb := nodeB_yes (n := (k : Int) + 1) (by omega) (by omega)
  have hr : rightB ((k : Int) + 1) (f k + 1) = true := by unfold rightB; rw [hnb]; simp; omega
  have hw : ∀ i, withF f ((k : Int) + 1) (f k + 1) i = if i = k then f k + 1 else f i := by
    intro i
    unfold withF
    rw [hr, Bool.true_and]
    by_cases h : i = k
    · subst h; simp
    · rw [if_neg (by simp; omega), if_neg h]
  refine ⟨?_, ?_, ?_, ?_, ?_⟩
  · rw [hasB_at hk (by omega) (by omega)]; simp
  · rw [hasB_at hk (by omega) (by omega), hw k, if_pos rfl]; simp
  · have c1 : covB (withF f ((k : Int) + 1) (f k + 1)) f = true := (covB_iff _ _).2 fun i _ => by
      rw [hw i]
      by_cases h : i = k
      · subst h; rw [if_pos rfl]; omega
      · rw [if_neg h]; exact Nat.le_refl _
    have c2 : covB f (withF f ((k : Int) + 1) (f k + 1)) = false := by
      cases h : covB f (withF f ((k : Int) + 1) (f k + 1)) with
      | false => rfl
      | true => have := (covB_iff _ _).1 h k hk; rw [hw k, if_pos rfl] at this; omega
    unfold ordI; rw [c1, c2]; rfl
  · rw [sumK_ext 12 (fun i _ => hw i)]
    have := sumK_upd f k (f k + 1) 12
    rw [if_pos hk, if_pos hk] at this; omega
  · intro i
    rw [hw i]
    by_cases h : i = k
    · subst h; rw [if_pos rfl]; omega
    · rw [if_neg h]; exact Nat.le_max_left _ _
set_option maxRecDepth 20000 in
set_option maxHeartbeats 8000000 in
theorem dots_walk (f g : Nat → Nat) (hf : ∀ i, f i < 4294967296) (node : Int) (w : World) :
    Calls Try.prog 6 #[.agg (vl f).toArray, .agg (vl g).toArray, .int .i64 node] w fun e w' => e = .returned (.bool true) ∧ Below w.heap.size w w' := by
  have HF := Lib.hid hf
  clear hf
  go_enter Try.func6, Try.ntmps6
  go_wp2_with (first | (first | (refine wpList_load_blk rfl 24 _ rfl _ rfl 24 (vl ?_).toArray _ ?_ Try.underlying24 rfl (vinfo _) ?_; rotate_left; (focus ((first | assumption | ((repeat' (first | assumption | ((with_reducible refine Blk.new' ?_); (first | rfl | (simp; done))) | ((with_reducible refine Blk.newRow ?_); (first | rfl | (simp; done))) | ((with_reducible refine Blk.farRow ?_ ?_ _); rotate_left; (first | (simp; done) | (simp; omega) | omega)) | (with_reducible refine Blk.alloc ?_ _) | (with_reducible refine Blk.drew ?_) | ((with_reducible refine Blk.far ?_ ?_ _); rotate_left; (first | (simp; done) | (simp; omega) | omega)) | (with_reducible refine Blk.next' (by assumption) ?_))); done))))) | (refine wpList_store_blk rfl 24 _ _ rfl _ 24 ?_ (vl _).toArray rfl rfl ?_ (vinfo _) ?_ (vl_all _) ?_; rotate_left; (focus ((first | assumption | ((repeat' (first | assumption | ((with_reducible refine Blk.new' ?_); (first | rfl | (simp; done))) | ((with_reducible refine Blk.newRow ?_); (first | rfl | (simp; done))) | ((with_reducible refine Blk.farRow ?_ ?_ _); rotate_left; (first | (simp; done) | (simp; omega) | omega)) | (with_reducible refine Blk.alloc ?_ _) | (with_reducible refine Blk.drew ?_) | ((with_reducible refine Blk.far ?_ ?_ _); rotate_left; (first | (simp; done) | (simp; omega) | omega)) | (with_reducible refine Blk.next' (by assumption) ?_))); done)))); (focus (first | exact (vl_size _).trans (vl_size _).symm | exact (vl_size _).symm)); intro _hrow)))
  go_loopw [7, 8] (fun x i wr => ∃ k : Nat, k ≤ 12 ∧ i = .int .i64 k ∧ x = .bool (allB f g k) ∧ (∀ j, j < k → f j ≤ 1048576) ∧ Blk wr w.heap.size 24 (vl f).toArray ∧ Blk wr (w.heap.size + 1) 24 (vl g).toArray ∧ Below w.heap.size w wr) (fun _ i _ => 12 - (intOf i).toNat)
  case atStart => exact ⟨0, Nat.zero_le _, rfl, by rw [allB_zero], fun j hj => by omega, by (first | assumption | ((repeat' (first | assumption | ((with_reducible refine Blk.new' ?_); (first | rfl | (simp; done))) | ((with_reducible refine Blk.newRow ?_); (first | rfl | (simp; done))) | ((with_reducible refine Blk.farRow ?_ ?_ _); rotate_left; (first | (simp; done) | (simp; omega) | omega)) | (with_reducible refine Blk.alloc ?_ _) | (with_reducible refine Blk.drew ?_) | ((with_reducible refine Blk.far ?_ ?_ _); rotate_left; (first | (simp; done) | (simp; omega) | omega)) | (with_reducible refine Blk.next' (by assumption) ?_))); done)), by (first | assumption | ((repeat' (first | assumption | ((with_reducible refine Blk.new' ?_); (first | rfl | (simp; done))) | ((with_reducible refine Blk.newRow ?_); (first | rfl | (simp; done))) | ((with_reducible refine Blk.farRow ?_ ?_ _); rotate_left; (first | (simp; done) | (simp; omega) | omega)) | (with_reducible refine Blk.alloc ?_ _) | (with_reducible refine Blk.drew ?_) | ((with_reducible refine Blk.far ?_ ?_ _); rotate_left; (first | (simp; done) | (simp; omega) | omega)) | (with_reducible refine Blk.next' (by assumption) ?_))); done)), by (repeat' (first | exact Below.refl _ _ | assumption | (with_reducible refine below_alloc' ?_) | (with_reducible refine Below.drew ?_) | (with_reducible refine below_next' (by assumption) ?_) | (with_reducible refine below_setRow ?_ ?_ _) | (with_reducible refine Below.setCell ?_ ?_ _) | (with_reducible refine below_next (by assumption) ?_ ?_) | (with_reducible refine Below.alloc ?_ ?_ _) | exact Nat.le_refl _ | (exact below_size (by assumption)) | (with_reducible refine size_alloc ?_) | (with_reducible refine size_setRow' ?_) | (with_reducible refine size_setCell' ?_) | (with_reducible refine size_next (by assumption) ?_) | omega | (simp; done) | (simp; omega)))⟩
  case round =>
    obtain ⟨k, hk, rfl, rfl, hall, B0, B1, BW⟩ := hrel
    have HNF0 := Lib.hid hall
    clear hall
    by_cases hlt : k < 12
    · have h1 : (k : Int) < 12 := by omega
      have N0 := Lib.hid (show ∀ W, Below wr.heap.size wr W → Blk W w.heap.size 24 (vl f).toArray ∧ Blk W (w.heap.size + 1) 24 (vl g).toArray ∧ Below w.heap.size w W from
        fun W hb => ⟨B0.next hb, B1.next hb, below_next hb BW.size BW⟩)
      have hx := B0.range
      have c1 := cell_blk (i := k) B0 (by rw [List.getElem?_toArray]; exact vl_get hlt)
      have c2 := cell_blk (i := k) B1 (by rw [List.getElem?_toArray]; exact vl_get hlt)
      have HNF1 := Lib.hid (show f k ≤ 1048576 → ∀ j, j < k + 1 → f j ≤ 1048576 from fun h j hj => by
        by_cases e : j = k
        · subst e; exact h
        · exact HNF0.out j (by omega))
      have HA0 := Lib.hid (allB_succ f g k)
      have HH := Lib.hid (fun h1 h2 => hasB_at (f := f) (m := g k) hlt h1 h2)
      have HC := Lib.hid (fun W => has_any f ((k : Int) + 1) (g k) W)
      obtain ⟨x, hxx⟩ : ∃ x, x = g k := ⟨_, rfl⟩
      obtain ⟨y, hyy⟩ : ∃ y, y = f k := ⟨_, rfl⟩
      rw [← hxx] at c2 HA0 HH HC
      rw [← hyy] at c1 HA0 HNF1 HH
      clear hxx hyy B0 B1
      by_cases hg : 1048576 < x
      · have hg' : decide (1048576 < (x : Int)) = true := by simp; omega
        clear hg HH HC HA0
        go_wp2_with (first | (go_at_call 17; refine (alive_any _).mono ?_; rintro e w' ⟨rfl, hb⟩))
        go_ret
        exact ⟨rfl, below_next hb BW.size BW⟩
      · have hg' : decide (1048576 < (x : Int)) = false := by simp; omega
        by_cases hy : 1048576 < y
        · have hy' : decide (1048576 < (y : Int)) = true := by simp; omega
          clear hg hy HH HC HA0
          go_wp2_with (first | (go_at_call 17; refine (alive_any _).mono ?_; rintro e w' ⟨rfl, hb⟩))
          go_ret
          exact ⟨rfl, below_next hb BW.size BW⟩
        · have hy' : decide (1048576 < (y : Int)) = false := by simp; omega
          have HNF := Lib.hid (HNF1.out (by omega))
          have hq : allB f g k = true ∨ allB f g k = false := by cases allB f g k <;> simp
          clear HNF1
          rcases hq with hq | hq
          · rw [hq, Bool.true_and] at HA0
            by_cases hz : x = 0
            · subst hz
              have HA := Lib.hid (HA0.out.trans (decide_eq_true (Nat.zero_le y)))
              clear hg hy HH HC HA0
              go_wp2_with fail
              have hw := wrap_next hlt
              refine wp_region_plan (S := (fun W => W.rangeAt w.heap.size 0 (vl f) ∧ W.cell? ⟨w.heap.size + 1, k, none⟩ = some (.int .u32 0) ∧ Below wr.heap.size wr W)) [(0, true), (1, true), (2, true), (3, true), (4, true), (5, true), (6, true), (7, true), (8, true), (9, true), (10, true), (11, true), (12, true), (13, true), (14, true), (15, true), (16, true), (17, true)] 9999 (by kernel_rfl) (by kernel_rfl) (by kernel_rfl) (by kernel_rfl) (by kernel_rfl) (fun _ _ d _ _ h => by cases d <;> exact h) ?_ (fun hHeld => ?_); (focus ((go_split_ands; (repeat' (refine And.intro ?_ ?_)); all_goals (first | assumption | ((repeat' (first | assumption | (with_reducible refine cell_drew ?_) | (with_reducible refine cell_next (by assumption) ?_) | ((with_reducible refine cell_new ?_ ?_); (focus (first | rfl | (simp; done))); (focus rfl)) | (with_reducible refine cell_alloc ?_))); done) | ((repeat' (first | assumption | (with_reducible refine (World.rangeAt_drew _ _ _ _).2 ?_) | (with_reducible refine vrange_next (by assumption) ?_) | (refine Blk.range (t := 24) ?_; (first | assumption | ((repeat' (first | assumption | ((with_reducible refine Blk.new' ?_); (first | rfl | (simp; done))) | ((with_reducible refine Blk.newRow ?_); (first | rfl | (simp; done))) | ((with_reducible refine Blk.farRow ?_ ?_ _); rotate_left; (first | (simp; done) | (simp; omega) | omega)) | (with_reducible refine Blk.alloc ?_ _) | (with_reducible refine Blk.drew ?_) | ((with_reducible refine Blk.far ?_ ?_ _); rotate_left; (first | (simp; done) | (simp; omega) | omega)) | (with_reducible refine Blk.next' (by assumption) ?_))); done))) | (with_reducible refine World.rangeAt_alloc ?_ _))); done) | ((repeat' (first | exact Below.refl _ _ | assumption | (with_reducible refine below_alloc' ?_) | (with_reducible refine Below.drew ?_) | (with_reducible refine below_next' (by assumption) ?_) | (with_reducible refine below_setRow ?_ ?_ _) | (with_reducible refine Below.setCell ?_ ?_ _) | (with_reducible refine below_next (by assumption) ?_ ?_) | (with_reducible refine Below.alloc ?_ ?_ _) | exact Nat.le_refl _ | (exact below_size (by assumption)) | (with_reducible refine size_alloc ?_) | (with_reducible refine size_setRow' ?_) | (with_reducible refine size_setCell' ?_) | (with_reducible refine size_next (by assumption) ?_) | omega | (simp; done) | (simp; omega))); done))))); simp only [List.map_cons, List.map_nil, List.getElem?_toArray, List.getElem?_cons_zero, List.getElem?_cons_succ]
              clear hx c2
              (repeat (first | (refine wpPlan.take (v := undef) (Or.inr ⟨by rfl, rfl⟩) ?_; simp only [Act.put, List.setIfInBounds_toArray, List.set_cons_zero, List.set_cons_succ]) | (refine wpPlan.take (v := .agg (vl ?_).toArray) (yieldsIf_load_mid rfl 24 _ rfl _ _ rfl (vl _) _ ?_ Try.underlying24 rfl (vinfoL _)) ?_; rotate_left; (focus (intro _ hS; (try dsimp only at hS); go_split_ands; assumption)); simp only [Act.put, List.setIfInBounds_toArray, List.set_cons_zero, List.set_cons_succ]) | (refine wpPlan.take (v := ?_) (Or.inl ⟨by rfl, ?_⟩) ?_; rotate_left; (focus (intro _ hS; (try dsimp only at hS); go_split_ands; (try subst hS); go_simp; (try (with_reducible rfl)); done)); simp only [Act.put, List.setIfInBounds_toArray, List.set_cons_zero, List.set_cons_succ]) | (refine wpPlan.carry (fun K hK => ?_); (first | (refine step_buildSlice2 (by rfl) _ _ rfl rfl rfl ?_) | go_simp); (try (first  | fail)); (try (go_wp2_with fail)); refine hK.out _ _ ?_ (fun hHeld' => ?_); (focus ((go_split_ands; (repeat' (refine And.intro ?_ ?_)); all_goals (first | assumption | ((repeat' (first | assumption | (with_reducible refine cell_drew ?_) | (with_reducible refine cell_next (by assumption) ?_) | ((with_reducible refine cell_new ?_ ?_); (focus (first | rfl | (simp; done))); (focus rfl)) | (with_reducible refine cell_alloc ?_))); done) | ((repeat' (first | assumption | (with_reducible refine (World.rangeAt_drew _ _ _ _).2 ?_) | (with_reducible refine vrange_next (by assumption) ?_) | (refine Blk.range (t := 24) ?_; (first | assumption | ((repeat' (first | assumption | ((with_reducible refine Blk.new' ?_); (first | rfl | (simp; done))) | ((with_reducible refine Blk.newRow ?_); (first | rfl | (simp; done))) | ((with_reducible refine Blk.farRow ?_ ?_ _); rotate_left; (first | (simp; done) | (simp; omega) | omega)) | (with_reducible refine Blk.alloc ?_ _) | (with_reducible refine Blk.drew ?_) | ((with_reducible refine Blk.far ?_ ?_ _); rotate_left; (first | (simp; done) | (simp; omega) | omega)) | (with_reducible refine Blk.next' (by assumption) ?_))); done))) | (with_reducible refine World.rangeAt_alloc ?_ _))); done) | ((repeat' (first | exact Below.refl _ _ | assumption | (with_reducible refine below_alloc' ?_) | (with_reducible refine Below.drew ?_) | (with_reducible refine below_next' (by assumption) ?_) | (with_reducible refine below_setRow ?_ ?_ _) | (with_reducible refine Below.setCell ?_ ?_ _) | (with_reducible refine below_next (by assumption) ?_ ?_) | (with_reducible refine Below.alloc ?_ ?_ _) | exact Nat.le_refl _ | (exact below_size (by assumption)) | (with_reducible refine size_alloc ?_) | (with_reducible refine size_setRow' ?_) | (with_reducible refine size_setCell' ?_) | (with_reducible refine size_next (by assumption) ?_) | omega | (simp; done) | (simp; omega))); done))))); clear hK K hHeld; have hHeld := hHeld'; clear hHeld'; (try clear hb); (try simp only [Act.put, List.setIfInBounds_toArray, List.set_cons_zero, List.set_cons_succ])))); refine wpPlan.done ?_
              clear hw
              have hN0 := N0.out _ hHeld.2.2
              clear hHeld
              go_wp2_with fail
              go_roundw
              case rel => exact ⟨k + 1, by omega, by go_num, by rw [HA.out], HNF.out, hN0.1, hN0.2.1, hN0.2.2⟩
              case measure => simp [intOf]; omega
            · have hz' : ((x : Int) == 0) = false := by simp; omega
              have hh := HH.out (by omega) (by omega)
              have HA := Lib.hid (HA0.out.trans hh.symm)
              have HC2 := Lib.hid (show ∀ W, Calls Try.prog 24 #[.agg (vl f).toArray, .agg #[.int .i64 ((k : Int) + 1), .int .u32 x]] W fun e w' => e = .returned (.bool (hasB f ((k : Int) + 1) x)) ∧ Below W.heap.size W w' from HC.out)
              clear hg hy hz hh HH HC HA0
              go_wp2_with fail
              have hw := wrap_next hlt
              refine wp_region_plan (S := (fun W => W.rangeAt w.heap.size 0 (vl f) ∧ W.cell? ⟨w.heap.size + 1, k, none⟩ = some (.int .u32 x) ∧ Below wr.heap.size wr W)) [(0, true), (1, true), (2, true), (3, true), (4, true), (5, true), (6, true), (7, true), (8, true), (9, true), (10, true), (11, true), (12, true), (13, true), (14, false), (15, true), (16, true), (17, true)] 9999 (by kernel_rfl) (by kernel_rfl) (by kernel_rfl) (by kernel_rfl) (by kernel_rfl) (fun _ _ d _ _ h => by cases d <;> exact h) ?_ (fun hHeld => ?_); (focus ((go_split_ands; (repeat' (refine And.intro ?_ ?_)); all_goals (first | assumption | ((repeat' (first | assumption | (with_reducible refine cell_drew ?_) | (with_reducible refine cell_next (by assumption) ?_) | ((with_reducible refine cell_new ?_ ?_); (focus (first | rfl | (simp; done))); (focus rfl)) | (with_reducible refine cell_alloc ?_))); done) | ((repeat' (first | assumption | (with_reducible refine (World.rangeAt_drew _ _ _ _).2 ?_) | (with_reducible refine vrange_next (by assumption) ?_) | (refine Blk.range (t := 24) ?_; (first | assumption | ((repeat' (first | assumption | ((with_reducible refine Blk.new' ?_); (first | rfl | (simp; done))) | ((with_reducible refine Blk.newRow ?_); (first | rfl | (simp; done))) | ((with_reducible refine Blk.farRow ?_ ?_ _); rotate_left; (first | (simp; done) | (simp; omega) | omega)) | (with_reducible refine Blk.alloc ?_ _) | (with_reducible refine Blk.drew ?_) | ((with_reducible refine Blk.far ?_ ?_ _); rotate_left; (first | (simp; done) | (simp; omega) | omega)) | (with_reducible refine Blk.next' (by assumption) ?_))); done))) | (with_reducible refine World.rangeAt_alloc ?_ _))); done) | ((repeat' (first | exact Below.refl _ _ | assumption | (with_reducible refine below_alloc' ?_) | (with_reducible refine Below.drew ?_) | (with_reducible refine below_next' (by assumption) ?_) | (with_reducible refine below_setRow ?_ ?_ _) | (with_reducible refine Below.setCell ?_ ?_ _) | (with_reducible refine below_next (by assumption) ?_ ?_) | (with_reducible refine Below.alloc ?_ ?_ _) | exact Nat.le_refl _ | (exact below_size (by assumption)) | (with_reducible refine size_alloc ?_) | (with_reducible refine size_setRow' ?_) | (with_reducible refine size_setCell' ?_) | (with_reducible refine size_next (by assumption) ?_) | omega | (simp; done) | (simp; omega))); done))))); simp only [List.map_cons, List.map_nil, List.getElem?_toArray, List.getElem?_cons_zero, List.getElem?_cons_succ]
              clear hx c2
              (repeat (first | (refine wpPlan.take (v := undef) (Or.inr ⟨by rfl, rfl⟩) ?_; simp only [Act.put, List.setIfInBounds_toArray, List.set_cons_zero, List.set_cons_succ]) | (refine wpPlan.take (v := .agg (vl ?_).toArray) (yieldsIf_load_mid rfl 24 _ rfl _ _ rfl (vl _) _ ?_ Try.underlying24 rfl (vinfoL _)) ?_; rotate_left; (focus (intro _ hS; (try dsimp only at hS); go_split_ands; assumption)); simp only [Act.put, List.setIfInBounds_toArray, List.set_cons_zero, List.set_cons_succ]) | (refine wpPlan.take (v := ?_) (Or.inl ⟨by rfl, ?_⟩) ?_; rotate_left; (focus (intro _ hS; (try dsimp only at hS); go_split_ands; (try subst hS); go_simp; (try (with_reducible rfl)); done)); simp only [Act.put, List.setIfInBounds_toArray, List.set_cons_zero, List.set_cons_succ]) | (refine wpPlan.carry (fun K hK => ?_); (first | (refine step_buildSlice2 (by rfl) _ _ rfl rfl rfl ?_) | go_simp); (try (first  | (go_at_call 24; refine (HC2.out _).mono ?_; rintro e w' ⟨rfl, hb⟩))); (try (go_wp2_with fail)); refine hK.out _ _ ?_ (fun hHeld' => ?_); (focus ((go_split_ands; (repeat' (refine And.intro ?_ ?_)); all_goals (first | assumption | ((repeat' (first | assumption | (with_reducible refine cell_drew ?_) | (with_reducible refine cell_next (by assumption) ?_) | ((with_reducible refine cell_new ?_ ?_); (focus (first | rfl | (simp; done))); (focus rfl)) | (with_reducible refine cell_alloc ?_))); done) | ((repeat' (first | assumption | (with_reducible refine (World.rangeAt_drew _ _ _ _).2 ?_) | (with_reducible refine vrange_next (by assumption) ?_) | (refine Blk.range (t := 24) ?_; (first | assumption | ((repeat' (first | assumption | ((with_reducible refine Blk.new' ?_); (first | rfl | (simp; done))) | ((with_reducible refine Blk.newRow ?_); (first | rfl | (simp; done))) | ((with_reducible refine Blk.farRow ?_ ?_ _); rotate_left; (first | (simp; done) | (simp; omega) | omega)) | (with_reducible refine Blk.alloc ?_ _) | (with_reducible refine Blk.drew ?_) | ((with_reducible refine Blk.far ?_ ?_ _); rotate_left; (first | (simp; done) | (simp; omega) | omega)) | (with_reducible refine Blk.next' (by assumption) ?_))); done))) | (with_reducible refine World.rangeAt_alloc ?_ _))); done) | ((repeat' (first | exact Below.refl _ _ | assumption | (with_reducible refine below_alloc' ?_) | (with_reducible refine Below.drew ?_) | (with_reducible refine below_next' (by assumption) ?_) | (with_reducible refine below_setRow ?_ ?_ _) | (with_reducible refine Below.setCell ?_ ?_ _) | (with_reducible refine below_next (by assumption) ?_ ?_) | (with_reducible refine Below.alloc ?_ ?_ _) | exact Nat.le_refl _ | (exact below_size (by assumption)) | (with_reducible refine size_alloc ?_) | (with_reducible refine size_setRow' ?_) | (with_reducible refine size_setCell' ?_) | (with_reducible refine size_next (by assumption) ?_) | omega | (simp; done) | (simp; omega))); done))))); clear hK K hHeld; have hHeld := hHeld'; clear hHeld'; (try clear hb); (try simp only [Act.put, List.setIfInBounds_toArray, List.set_cons_zero, List.set_cons_succ])))); refine wpPlan.done ?_
              clear hw
              have hN0 := N0.out _ hHeld.2.2
              clear hHeld
              go_wp2_with fail
              go_roundw
              case rel => exact ⟨k + 1, by omega, by go_num, by rw [HA.out], HNF.out, hN0.1, hN0.2.1, hN0.2.2⟩
              case measure => simp [intOf]; omega
          · rw [hq, Bool.false_and] at HA0
            have HA := Lib.hid HA0.out
            clear hg hy HH HC HA0
            go_wp2_with fail
            have hw := wrap_next hlt
            refine wp_region_plan (S := (fun W => W.rangeAt w.heap.size 0 (vl f) ∧ W.cell? ⟨w.heap.size + 1, k, none⟩ = some (.int .u32 x) ∧ Below wr.heap.size wr W)) [(0, true), (1, true), (2, true), (3, true), (4, true), (5, true), (6, true), (7, true), (8, true), (9, true), (10, true), (11, true), (12, true), (13, true), (14, true), (15, true), (16, true), (17, true)] 9999 (by kernel_rfl) (by kernel_rfl) (by kernel_rfl) (by kernel_rfl) (by kernel_rfl) (fun _ _ d _ _ h => by cases d <;> exact h) ?_ (fun hHeld => ?_); (focus ((go_split_ands; (repeat' (refine And.intro ?_ ?_)); all_goals (first | assumption | ((repeat' (first | assumption | (with_reducible refine cell_drew ?_) | (with_reducible refine cell_next (by assumption) ?_) | ((with_reducible refine cell_new ?_ ?_); (focus (first | rfl | (simp; done))); (focus rfl)) | (with_reducible refine cell_alloc ?_))); done) | ((repeat' (first | assumption | (with_reducible refine (World.rangeAt_drew _ _ _ _).2 ?_) | (with_reducible refine vrange_next (by assumption) ?_) | (refine Blk.range (t := 24) ?_; (first | assumption | ((repeat' (first | assumption | ((with_reducible refine Blk.new' ?_); (first | rfl | (simp; done))) | ((with_reducible refine Blk.newRow ?_); (first | rfl | (simp; done))) | ((with_reducible refine Blk.farRow ?_ ?_ _); rotate_left; (first | (simp; done) | (simp; omega) | omega)) | (with_reducible refine Blk.alloc ?_ _) | (with_reducible refine Blk.drew ?_) | ((with_reducible refine Blk.far ?_ ?_ _); rotate_left; (first | (simp; done) | (simp; omega) | omega)) | (with_reducible refine Blk.next' (by assumption) ?_))); done))) | (with_reducible refine World.rangeAt_alloc ?_ _))); done) | ((repeat' (first | exact Below.refl _ _ | assumption | (with_reducible refine below_alloc' ?_) | (with_reducible refine Below.drew ?_) | (with_reducible refine below_next' (by assumption) ?_) | (with_reducible refine below_setRow ?_ ?_ _) | (with_reducible refine Below.setCell ?_ ?_ _) | (with_reducible refine below_next (by assumption) ?_ ?_) | (with_reducible refine Below.alloc ?_ ?_ _) | exact Nat.le_refl _ | (exact below_size (by assumption)) | (with_reducible refine size_alloc ?_) | (with_reducible refine size_setRow' ?_) | (with_reducible refine size_setCell' ?_) | (with_reducible refine size_next (by assumption) ?_) | omega | (simp; done) | (simp; omega))); done))))); simp only [List.map_cons, List.map_nil, List.getElem?_toArray, List.getElem?_cons_zero, List.getElem?_cons_succ]
            clear hx c2
            (repeat (first | (refine wpPlan.take (v := undef) (Or.inr ⟨by rfl, rfl⟩) ?_; simp only [Act.put, List.setIfInBounds_toArray, List.set_cons_zero, List.set_cons_succ]) | (refine wpPlan.take (v := .agg (vl ?_).toArray) (yieldsIf_load_mid rfl 24 _ rfl _ _ rfl (vl _) _ ?_ Try.underlying24 rfl (vinfoL _)) ?_; rotate_left; (focus (intro _ hS; (try dsimp only at hS); go_split_ands; assumption)); simp only [Act.put, List.setIfInBounds_toArray, List.set_cons_zero, List.set_cons_succ]) | (refine wpPlan.take (v := ?_) (Or.inl ⟨by rfl, ?_⟩) ?_; rotate_left; (focus (intro _ hS; (try dsimp only at hS); go_split_ands; (try subst hS); go_simp; (try (with_reducible rfl)); done)); simp only [Act.put, List.setIfInBounds_toArray, List.set_cons_zero, List.set_cons_succ]) | (refine wpPlan.carry (fun K hK => ?_); (first | (refine step_buildSlice2 (by rfl) _ _ rfl rfl rfl ?_) | go_simp); (try (first  | fail)); (try (go_wp2_with fail)); refine hK.out _ _ ?_ (fun hHeld' => ?_); (focus ((go_split_ands; (repeat' (refine And.intro ?_ ?_)); all_goals (first | assumption | ((repeat' (first | assumption | (with_reducible refine cell_drew ?_) | (with_reducible refine cell_next (by assumption) ?_) | ((with_reducible refine cell_new ?_ ?_); (focus (first | rfl | (simp; done))); (focus rfl)) | (with_reducible refine cell_alloc ?_))); done) | ((repeat' (first | assumption | (with_reducible refine (World.rangeAt_drew _ _ _ _).2 ?_) | (with_reducible refine vrange_next (by assumption) ?_) | (refine Blk.range (t := 24) ?_; (first | assumption | ((repeat' (first | assumption | ((with_reducible refine Blk.new' ?_); (first | rfl | (simp; done))) | ((with_reducible refine Blk.newRow ?_); (first | rfl | (simp; done))) | ((with_reducible refine Blk.farRow ?_ ?_ _); rotate_left; (first | (simp; done) | (simp; omega) | omega)) | (with_reducible refine Blk.alloc ?_ _) | (with_reducible refine Blk.drew ?_) | ((with_reducible refine Blk.far ?_ ?_ _); rotate_left; (first | (simp; done) | (simp; omega) | omega)) | (with_reducible refine Blk.next' (by assumption) ?_))); done))) | (with_reducible refine World.rangeAt_alloc ?_ _))); done) | ((repeat' (first | exact Below.refl _ _ | assumption | (with_reducible refine below_alloc' ?_) | (with_reducible refine Below.drew ?_) | (with_reducible refine below_next' (by assumption) ?_) | (with_reducible refine below_setRow ?_ ?_ _) | (with_reducible refine Below.setCell ?_ ?_ _) | (with_reducible refine below_next (by assumption) ?_ ?_) | (with_reducible refine Below.alloc ?_ ?_ _) | exact Nat.le_refl _ | (exact below_size (by assumption)) | (with_reducible refine size_alloc ?_) | (with_reducible refine size_setRow' ?_) | (with_reducible refine size_setCell' ?_) | (with_reducible refine size_next (by assumption) ?_) | omega | (simp; done) | (simp; omega))); done))))); clear hK K hHeld; have hHeld := hHeld'; clear hHeld'; (try clear hb); (try simp only [Act.put, List.setIfInBounds_toArray, List.set_cons_zero, List.set_cons_succ])))); refine wpPlan.done ?_
            clear hw
            have hN0 := N0.out _ hHeld.2.2
            clear hHeld
            go_wp2_with fail
            go_roundw
            case rel => exact ⟨k + 1, by omega, by go_num, by rw [HA.out], HNF.out, hN0.1, hN0.2.1, hN0.2.2⟩
            case measure => simp [intOf]; omega
    · obtain rfl : k = 12 := by omega
      have HQ := Lib.hid (allB_all f g)
      by_cases hN : nodeB node = true ∧ getN f node < 1048576
      · obtain ⟨hn, hlow⟩ := hN
        obtain ⟨k, hk12, hnode⟩ := node_of hn
        have hg : getN f node = f k := by unfold getN; rw [if_pos hn, hnode]; congr 1; omega
        rw [hg] at hlow
        obtain ⟨e1, e2, e3, e4, e5⟩ := next_facts hk12 hnode hlow
        have hnx : nextD f node = (node, f k + 1, 0) := by unfold nextD; rw [if_pos hn, hg, if_pos hlow]
        obtain ⟨u, hu⟩ : ∃ u, u = withF f node (f k + 1) := ⟨_, rfl⟩
        rw [← hu] at e2 e3 e4 e5
        have C1 := Lib.hid (fun W => has_any f node (f k + 1) W)
        have C2 := Lib.hid (fun W => has_any u node (f k + 1) W)
        have C3 := Lib.hid (fun W => order_any u f W)
        have C4 := Lib.hid (fun W => count_any u W (fun i => by have := e5 i; have := HF.out i; omega))
        have C5 := Lib.hid (fun W => count_any f W HF.out)
        have C6 := Lib.hid (fun W => with_any f node (f k + 1) W)
        have C7 := Lib.hid (fun W => next_any f node W)
        have C8 := Lib.hid (fun W => covers_any f g W)
        have hsum := sumK_le HF.out 12
        obtain ⟨c, hc⟩ : ∃ c, c = f k + 1 := ⟨_, rfl⟩
        obtain ⟨t, ht⟩ : ∃ t, t = sumK f 12 := ⟨_, rfl⟩
        rw [← hc] at e1 e2 hnx hu C1 C2 C6
        rw [← ht] at e4 hsum C5
        rw [e1] at C1
        rw [e2] at C2
        rw [e3] at C3
        rw [e4] at C4
        rw [hnx] at C7
        rw [← hu] at C6
        rw [← HQ.out] at C8
        have hwr : IntKind.u64.wrap ((t : Int) + 1) = (t : Int) + 1 := by rw [IntKind.wrap_u64]; omega
        have HW := Lib.hid hwr
        clear hwr e1 e2 e3 e4 e5 hnx hu hsum ht hc hg hlow hnode hn HQ HNF0 HF
        go_wp2_with (first | (first | (refine wpList_load_blk rfl 24 _ rfl _ rfl 24 (vl ?_).toArray _ ?_ Try.underlying24 rfl (vinfo _) ?_; rotate_left; (focus ((first | assumption | ((repeat' (first | assumption | ((with_reducible refine Blk.new' ?_); (first | rfl | (simp; done))) | ((with_reducible refine Blk.newRow ?_); (first | rfl | (simp; done))) | ((with_reducible refine Blk.farRow ?_ ?_ _); rotate_left; (first | (simp; done) | (simp; omega) | omega)) | (with_reducible refine Blk.alloc ?_ _) | (with_reducible refine Blk.drew ?_) | ((with_reducible refine Blk.far ?_ ?_ _); rotate_left; (first | (simp; done) | (simp; omega) | omega)) | (with_reducible refine Blk.next' (by assumption) ?_))); done))))) | (refine wpList_store_blk rfl 24 _ _ rfl _ 24 ?_ (vl _).toArray rfl rfl ?_ (vinfo _) ?_ (vl_all _) ?_; rotate_left; (focus ((first | assumption | ((repeat' (first | assumption | ((with_reducible refine Blk.new' ?_); (first | rfl | (simp; done))) | ((with_reducible refine Blk.newRow ?_); (first | rfl | (simp; done))) | ((with_reducible refine Blk.farRow ?_ ?_ _); rotate_left; (first | (simp; done) | (simp; omega) | omega)) | (with_reducible refine Blk.alloc ?_ _) | (with_reducible refine Blk.drew ?_) | ((with_reducible refine Blk.far ?_ ?_ _); rotate_left; (first | (simp; done) | (simp; omega) | omega)) | (with_reducible refine Blk.next' (by assumption) ?_))); done)))); (focus (first | exact (vl_size _).trans (vl_size _).symm | exact (vl_size _).symm)); intro _hrow)) | (refine wpList_load_blk rfl 26 _ rfl _ rfl 26 #[.int .i64 ?_, .int .u32 ?_] _ ?_ Try.underlying26 rfl (dinfo _ _) ?_; rotate_left; rotate_left; (focus ((first | assumption | ((repeat' (first | assumption | ((with_reducible refine Blk.new' ?_); (first | rfl | (simp; done))) | ((with_reducible refine Blk.newRow ?_); (first | rfl | (simp; done))) | ((with_reducible refine Blk.farRow ?_ ?_ _); rotate_left; (first | (simp; done) | (simp; omega) | omega)) | (with_reducible refine Blk.alloc ?_ _) | (with_reducible refine Blk.drew ?_) | ((with_reducible refine Blk.far ?_ ?_ _); rotate_left; (first | (simp; done) | (simp; omega) | omega)) | (with_reducible refine Blk.next' (by assumption) ?_))); done))))) | (go_at_call 9; refine (C7.out _).mono ?_; rintro e w1 ⟨rfl, hb1⟩) | (go_at_call 15; refine (C6.out _).mono ?_; rintro e w2 ⟨rfl, hb2⟩))
        clear _hrow
        simp only [World.setRow_alloc_new]
        have hw := HW.out
        refine wp_region_plan (S := (fun W => W.rangeAt w.heap.size 0 (vl f) ∧ W.rangeAt (w.heap.size + 1) 0 (vl g) ∧ W.rangeAt w2.heap.size 0 (vl u) ∧ W.cell? ⟨w1.heap.size, 0, none⟩ = some (.int .i64 node) ∧ W.cell? ⟨w1.heap.size, 1, none⟩ = some (.int .u32 c) ∧ Below w.heap.size w W)) [(0, false), (1, true), (2, true), (3, true), (4, true), (5, false), (6, true), (7, true), (8, true), (9, true), (10, true), (11, false), (12, true), (13, true), (14, true), (15, true), (16, true), (17, false), (18, true), (19, true), (20, true), (21, true), (22, false), (23, true), (24, true), (25, true), (26, true), (28, true), (27, false), (29, false), (30, true), (31, true), (32, true), (33, true)] 9999 (by kernel_rfl) (by kernel_rfl) (by kernel_rfl) (by kernel_rfl) (by kernel_rfl) (fun _ _ d _ _ h => by cases d <;> exact h) ?_ (fun hHeld => ?_); (focus ((go_split_ands; (repeat' (refine And.intro ?_ ?_)); all_goals (first | assumption | ((repeat' (first | assumption | (with_reducible refine cell_drew ?_) | (with_reducible refine cell_next (by assumption) ?_) | ((with_reducible refine cell_new ?_ ?_); (focus (first | rfl | (simp; done))); (focus rfl)) | (with_reducible refine cell_alloc ?_))); done) | ((repeat' (first | assumption | (with_reducible refine (World.rangeAt_drew _ _ _ _).2 ?_) | (with_reducible refine vrange_next (by assumption) ?_) | (refine Blk.range (t := 24) ?_; (first | assumption | ((repeat' (first | assumption | ((with_reducible refine Blk.new' ?_); (first | rfl | (simp; done))) | ((with_reducible refine Blk.newRow ?_); (first | rfl | (simp; done))) | ((with_reducible refine Blk.farRow ?_ ?_ _); rotate_left; (first | (simp; done) | (simp; omega) | omega)) | (with_reducible refine Blk.alloc ?_ _) | (with_reducible refine Blk.drew ?_) | ((with_reducible refine Blk.far ?_ ?_ _); rotate_left; (first | (simp; done) | (simp; omega) | omega)) | (with_reducible refine Blk.next' (by assumption) ?_))); done))) | (with_reducible refine World.rangeAt_alloc ?_ _))); done) | ((repeat' (first | exact Below.refl _ _ | assumption | (with_reducible refine below_alloc' ?_) | (with_reducible refine Below.drew ?_) | (with_reducible refine below_next' (by assumption) ?_) | (with_reducible refine below_setRow ?_ ?_ _) | (with_reducible refine Below.setCell ?_ ?_ _) | (with_reducible refine below_next (by assumption) ?_ ?_) | (with_reducible refine Below.alloc ?_ ?_ _) | exact Nat.le_refl _ | (exact below_size (by assumption)) | (with_reducible refine size_alloc ?_) | (with_reducible refine size_setRow' ?_) | (with_reducible refine size_setCell' ?_) | (with_reducible refine size_next (by assumption) ?_) | omega | (simp; done) | (simp; omega))); done))))); simp only [List.map_cons, List.map_nil, List.getElem?_toArray, List.getElem?_cons_zero, List.getElem?_cons_succ]
        clear hb1 hb2
        (repeat (first | (refine wpPlan.take (v := undef) (Or.inr ⟨by rfl, rfl⟩) ?_; simp only [Act.put, List.setIfInBounds_toArray, List.set_cons_zero, List.set_cons_succ]) | (refine wpPlan.take (v := .agg (vl ?_).toArray) (yieldsIf_load_mid rfl 24 _ rfl _ _ rfl (vl _) _ ?_ Try.underlying24 rfl (vinfoL _)) ?_; rotate_left; (focus (intro _ hS; (try dsimp only at hS); go_split_ands; assumption)); simp only [Act.put, List.setIfInBounds_toArray, List.set_cons_zero, List.set_cons_succ]) | (refine wpPlan.take (v := ?_) (Or.inl ⟨by rfl, ?_⟩) ?_; rotate_left; (focus (intro _ hS; (try dsimp only at hS); go_split_ands; (try subst hS); go_simp; (try (with_reducible rfl)); done)); simp only [Act.put, List.setIfInBounds_toArray, List.set_cons_zero, List.set_cons_succ]) | (refine wpPlan.carry (fun K hK => ?_); (first | (refine step_buildSlice2 (by rfl) _ _ rfl rfl rfl ?_) | go_simp); (try (first  | (go_at_call 17; refine (alive_any _).mono ?_; rintro e w' ⟨rfl, hb⟩) | (go_at_call 22; refine (C8.out _).mono ?_; rintro e w' ⟨rfl, hb⟩) | (go_at_call 24; (with_reducible refine (C1.out _).mono ?_); rintro e w' ⟨rfl, hb⟩) | (go_at_call 24; (with_reducible refine (C2.out _).mono ?_); rintro e w' ⟨rfl, hb⟩) | (go_at_call 28; refine (C3.out _).mono ?_; rintro e w' ⟨rfl, hb⟩) | (go_at_call 26; (with_reducible refine (C4.out _).mono ?_); rintro e w' ⟨rfl, hb⟩) | (go_at_call 26; (with_reducible refine (C5.out _).mono ?_); rintro e w' ⟨rfl, hb⟩))); (try (go_wp2_with fail)); refine hK.out _ _ ?_ (fun hHeld' => ?_); (focus ((go_split_ands; (repeat' (refine And.intro ?_ ?_)); all_goals (first | assumption | ((repeat' (first | assumption | (with_reducible refine cell_drew ?_) | (with_reducible refine cell_next (by assumption) ?_) | ((with_reducible refine cell_new ?_ ?_); (focus (first | rfl | (simp; done))); (focus rfl)) | (with_reducible refine cell_alloc ?_))); done) | ((repeat' (first | assumption | (with_reducible refine (World.rangeAt_drew _ _ _ _).2 ?_) | (with_reducible refine vrange_next (by assumption) ?_) | (refine Blk.range (t := 24) ?_; (first | assumption | ((repeat' (first | assumption | ((with_reducible refine Blk.new' ?_); (first | rfl | (simp; done))) | ((with_reducible refine Blk.newRow ?_); (first | rfl | (simp; done))) | ((with_reducible refine Blk.farRow ?_ ?_ _); rotate_left; (first | (simp; done) | (simp; omega) | omega)) | (with_reducible refine Blk.alloc ?_ _) | (with_reducible refine Blk.drew ?_) | ((with_reducible refine Blk.far ?_ ?_ _); rotate_left; (first | (simp; done) | (simp; omega) | omega)) | (with_reducible refine Blk.next' (by assumption) ?_))); done))) | (with_reducible refine World.rangeAt_alloc ?_ _))); done) | ((repeat' (first | exact Below.refl _ _ | assumption | (with_reducible refine below_alloc' ?_) | (with_reducible refine Below.drew ?_) | (with_reducible refine below_next' (by assumption) ?_) | (with_reducible refine below_setRow ?_ ?_ _) | (with_reducible refine Below.setCell ?_ ?_ _) | (with_reducible refine below_next (by assumption) ?_ ?_) | (with_reducible refine Below.alloc ?_ ?_ _) | exact Nat.le_refl _ | (exact below_size (by assumption)) | (with_reducible refine size_alloc ?_) | (with_reducible refine size_setRow' ?_) | (with_reducible refine size_setCell' ?_) | (with_reducible refine size_next (by assumption) ?_) | omega | (simp; done) | (simp; omega))); done))))); clear hK K hHeld; have hHeld := hHeld'; clear hHeld'; (try clear hb); (try simp only [Act.put, List.setIfInBounds_toArray, List.set_cons_zero, List.set_cons_succ])))); refine wpPlan.done ?_
        have hE := hHeld.2.2.2.2.2
        clear hHeld hw
        go_wp2_with fail
        go_ret
        exact ⟨rfl, hE⟩
      · have C7 := Lib.hid (fun W => next_any f node W)
        have C8 := Lib.hid (fun W => covers_any f g W)
        have hne : ∃ e : Int, nextD f node = (0, 0, e) ∧ (e != 0) = true := by
          unfold nextD
          by_cases hn : nodeB node = true
          · rw [if_pos hn, if_neg (fun h => hN ⟨hn, h⟩)]; exact ⟨5, rfl, rfl⟩
          · rw [if_neg hn]; exact ⟨11, rfl, rfl⟩
        obtain ⟨e, hnx, he⟩ := hne
        rw [hnx] at C7
        rw [← HQ.out] at C8
        clear hnx hN HQ HNF0 HF
        go_wp2_with (first | (first | (refine wpList_load_blk rfl 24 _ rfl _ rfl 24 (vl ?_).toArray _ ?_ Try.underlying24 rfl (vinfo _) ?_; rotate_left; (focus ((first | assumption | ((repeat' (first | assumption | ((with_reducible refine Blk.new' ?_); (first | rfl | (simp; done))) | ((with_reducible refine Blk.newRow ?_); (first | rfl | (simp; done))) | ((with_reducible refine Blk.farRow ?_ ?_ _); rotate_left; (first | (simp; done) | (simp; omega) | omega)) | (with_reducible refine Blk.alloc ?_ _) | (with_reducible refine Blk.drew ?_) | ((with_reducible refine Blk.far ?_ ?_ _); rotate_left; (first | (simp; done) | (simp; omega) | omega)) | (with_reducible refine Blk.next' (by assumption) ?_))); done))))) | (refine wpList_store_blk rfl 24 _ _ rfl _ 24 ?_ (vl _).toArray rfl rfl ?_ (vinfo _) ?_ (vl_all _) ?_; rotate_left; (focus ((first | assumption | ((repeat' (first | assumption | ((with_reducible refine Blk.new' ?_); (first | rfl | (simp; done))) | ((with_reducible refine Blk.newRow ?_); (first | rfl | (simp; done))) | ((with_reducible refine Blk.farRow ?_ ?_ _); rotate_left; (first | (simp; done) | (simp; omega) | omega)) | (with_reducible refine Blk.alloc ?_ _) | (with_reducible refine Blk.drew ?_) | ((with_reducible refine Blk.far ?_ ?_ _); rotate_left; (first | (simp; done) | (simp; omega) | omega)) | (with_reducible refine Blk.next' (by assumption) ?_))); done)))); (focus (first | exact (vl_size _).trans (vl_size _).symm | exact (vl_size _).symm)); intro _hrow)) | (go_at_call 9; refine (C7.out _).mono ?_; rintro e w1 ⟨rfl, hb1⟩) | (go_at_call 17; refine (alive_any _).mono ?_; rintro e w' ⟨rfl, hb⟩) | (go_at_call 22; refine (C8.out _).mono ?_; rintro e w' ⟨rfl, hb⟩))
        go_ret
        exact ⟨rfl, by (repeat' (first | exact Below.refl _ _ | assumption | (with_reducible refine below_alloc' ?_) | (with_reducible refine Below.drew ?_) | (with_reducible refine below_next' (by assumption) ?_) | (with_reducible refine below_setRow ?_ ?_ _) | (with_reducible refine Below.setCell ?_ ?_ _) | (with_reducible refine below_next (by assumption) ?_ ?_) | (with_reducible refine Below.alloc ?_ ?_ _) | exact Nat.le_refl _ | (exact below_size (by assumption)) | (with_reducible refine size_alloc ?_) | (with_reducible refine size_setRow' ?_) | (with_reducible refine size_setCell' ?_) | (with_reducible refine size_next (by assumption) ?_) | omega | (simp; done) | (simp; omega)))⟩

set_option maxRecDepth 100000 in
theorem dots_lifted (os : Os) (started : os.Started) (H : Type) (enc : TypeId × Value → H) :
    ReturnsInHanded {} Try.checked os 6 .any (Rows.clockDotsSpec.pre6 enc Try.prog Try.f6 Rows.clockDotsRow.domain false) (Rows.clockDotsSpec.post enc Try.prog Try.f6 false true false false) := by
  refine law_lift (C := Try.checked) own_knob started (by kernel_rfl) Try.func6 rfl Try.underlying4 laid_out (by kernel_rfl) rfl ?_
    (ChangeSpec.witness6 (enc := enc) (C := Try.checked) false ⟨#[], #[.agg #[.int .u32 0, .int .u32 0, .int .u32 0, .int .u32 0, .int .u32 0, .int .u32 0, .int .u32 0, .int .u32 0, .int .u32 0, .int .u32 0, .int .u32 0, .int .u32 0], .agg #[.int .u32 0, .int .u32 0, .int .u32 0, .int .u32 0, .int .u32 0, .int .u32 0, .int .u32 0, .int .u32 0, .int .u32 0, .int .u32 0, .int .u32 0, .int .u32 0], .int .i64 0], []⟩ 8 (by kernel_rfl) (by kernel_rfl) (by kernel_rfl) (by kernel_rfl)) ?_
  · intro ds hds
    match ds, hds with
    | [_, _, _], _ => rfl
  intro W base args ds ps hval hA hlt hsz
  rw [Try.params6] at hA hval
  obtain ⟨v0, vs0, d0, ds0, p0, q0, hargs, rfl, rfl, h0, r0⟩ := trodAll_cons hA
  obtain ⟨v1, vs1, d1, ds1, p1, q1, rfl, rfl, rfl, h1, r1⟩ := trodAll_cons r0
  obtain ⟨v2, vs2, d2, ds2, p2, q2, rfl, rfl, rfl, h2, r2⟩ := trodAll_cons r1
  obtain ⟨rfl, rfl, rfl⟩ := trodAll_nil r2
  obtain rfl : args = #[v0, v1, v2] := by cases args; simp_all
  obtain ⟨f, rfl, hf⟩ := open_vec (hval 0 24 v0 rfl rfl) h0
  obtain ⟨g, rfl, hg⟩ := open_vec (hval 1 24 v1 rfl rfl) h1
  obtain ⟨a2, rfl, rfl, rfl, w2⟩ := open_int Try.underlying3 (hval 2 3 v2 rfl rfl) h2
  exact dots_walk f g hf a2 W

theorem dots_holds : Rows.ClockDotsSaid :=
  OpenClaim.holds_of_wide 6 Try.f6 rfl rfl rfl rfl rfl rfl rfl ⟨rfl, rfl, rfl, rfl, rfl⟩ rfl rfl rfl rfl rfl (by kernel_rfl) Try.func6 (by kernel_rfl)
    (of_decide_eq_true (by kernel_rfl)) (by unfold Func.isWrapper; first | (rw [if_pos (by decide +kernel)]; kernel_rfl) | (rw [if_neg (by decide +kernel)]; exact ⟨rfl, rfl⟩))
    (fun os started H enc _ => dots_lifted os started H enc)

end Go.Proofs.Ytjloendkkmkhhaa

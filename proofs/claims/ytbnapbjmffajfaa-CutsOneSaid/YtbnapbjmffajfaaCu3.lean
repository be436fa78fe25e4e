/-
cuts: Last, right, beats.
-/
import Derived.Test.YtbnapbjmffajfaaCu2
import Derived.Deep.CutRange
namespace Go.Proofs.Ytbnapbjmffajfaa
open Go.RowKit
set_option linter.unusedSimpArgs false
set_option linter.unusedVariables false

theorem built_none : Try.prog.built 33 [] = some (vl (fun _ => 0)).toArray := by rw [vl_zero]; kernel_rfl
theorem range_below' {W W' : World} {b o : Nat} {cs : List Value} (hb : Below W.heap.size W W') (h : W.rangeAt b o cs) : W'.rangeAt b o cs := fun j v hv => by
  have h1 := h j v hv
  exact (hb.cell (World.block_lt_of_cell? _ _ h1)).trans h1
/-- The last cut's vector. -/
def lastF (cs : List Ct) : Nat → Nat := match cs.getLast? with
  | none => fun _ => 0
  | some c => c.f
section
variable {B t : Nat} {F : Nat → Prop} {own other : Int} {v : Value} {cs : List Ct} {a b : Sd} (W : World)
set_option maxRecDepth 20000 in
theorem last_any (T : Tb W B t F own other v cs a b) (hl : cs.length ≤ 100000) : Calls Try.prog 20 #[.pointer (some ⟨t, 0, none⟩)] W fun e W' => e = .returned (.agg (vl (lastF cs)).toArray) ∧ Below W.heap.size W W' := by
  have b0 : Below W.heap.size W (W.alloc (.cells (vl (fun _ => 0)).toArray 33)) := (Below.refl _ W).alloc (Nat.le_refl _) _
  rw [vl_zero] at b0
  have c2 := cell_next b0 T.c2
  obtain ⟨A, c, rfl, hc, hs, -⟩ := ownG_slice T.row
  have hrow := T.row
  have htW : t ≠ W.heap.size := Nat.ne_of_lt (T.low t T.ft).2
  clear T
  by_cases h0 : cs.length = 0
  · have e : cs = [] := List.length_eq_zero_iff.1 h0
    subst e
    clear hs hrow hl h0 b0
    have b0 : Below W.heap.size W (W.alloc (.cells (vl (fun _ => 0)).toArray 33)) := (Below.refl _ W).alloc (Nat.le_refl _) _
    go_enter Try.func20, Try.ntmps20
    go_wp2_with (first | (first | (refine wpList_load_blk rfl 33 _ rfl _ rfl 33 (vl ?_).toArray _ ?_ Try.underlying33 rfl (vinfo _) ?_; rotate_left; (focus ((first | assumption | ((repeat' (first | assumption | ((with_reducible refine Blk.new' ?_); (first | rfl | (simp; done))) | ((with_reducible refine Blk.newRow ?_); (first | rfl | (simp; done))) | ((with_reducible refine Blk.farRow ?_ ?_ _); rotate_left; (first | (simp; done) | (simp; omega) | omega)) | (with_reducible refine Blk.alloc ?_ _) | (with_reducible refine Blk.drew ?_) | ((with_reducible refine Blk.far ?_ ?_ _); rotate_left; (first | (simp; done) | (simp; omega) | omega)) | (with_reducible refine Blk.next' (by assumption) ?_))); done))))) | (refine wpList_store_blk rfl 33 _ _ rfl _ 33 ?_ (vl _).toArray rfl rfl ?_ (vinfo _) ?_ (vl_all _) ?_; rotate_left; (focus ((first | assumption | ((repeat' (first | assumption | ((with_reducible refine Blk.new' ?_); (first | rfl | (simp; done))) | ((with_reducible refine Blk.newRow ?_); (first | rfl | (simp; done))) | ((with_reducible refine Blk.farRow ?_ ?_ _); rotate_left; (first | (simp; done) | (simp; omega) | omega)) | (with_reducible refine Blk.alloc ?_ _) | (with_reducible refine Blk.drew ?_) | ((with_reducible refine Blk.far ?_ ?_ _); rotate_left; (first | (simp; done) | (simp; omega) | omega)) | (with_reducible refine Blk.next' (by assumption) ?_))); done)))); (focus (first | exact (vl_size _).trans (vl_size _).symm | exact (vl_size _).symm)); intro _hrow)) | (refine wpList_build_lit (vl (fun _ => 0)).toArray rfl 33 _ rfl built_none ?_))
    (refine bodyPost_row (t := 33) (vl (fun _ => 0)).toArray rfl rfl rfl Try.underlying33 rfl (vinfo _) ?_ ?_; (focus ((first | assumption | ((repeat' (first | assumption | ((with_reducible refine Blk.new' ?_); (first | rfl | (simp; done))) | ((with_reducible refine Blk.newRow ?_); (first | rfl | (simp; done))) | ((with_reducible refine Blk.farRow ?_ ?_ _); rotate_left; (first | (simp; done) | (simp; omega) | omega)) | (with_reducible refine Blk.alloc ?_ _) | (with_reducible refine Blk.drew ?_) | ((with_reducible refine Blk.far ?_ ?_ _); rotate_left; (first | (simp; done) | (simp; omega) | omega)) | (with_reducible refine Blk.next' (by assumption) ?_))); done)))))
    exact ⟨rfl, by (repeat' (first | exact Below.refl _ _ | assumption | (with_reducible refine below_alloc' ?_) | (with_reducible refine Below.drew ?_) | (with_reducible refine below_next' (by assumption) ?_) | (with_reducible refine below_setRow ?_ ?_ _) | (with_reducible refine Below.setCell ?_ ?_ _) | (with_reducible refine below_next (by assumption) ?_ ?_) | (with_reducible refine Below.alloc ?_ ?_ _) | exact Nat.le_refl _ | (exact below_size (by assumption)) | (with_reducible refine size_alloc ?_) | (with_reducible refine size_setRow' ?_) | (with_reducible refine size_setCell' ?_) | (with_reducible refine size_next (by assumption) ?_) | omega | (simp; done) | (simp; omega)))⟩
  · obtain ⟨m, hm⟩ : ∃ m, cs.length = m + 1 := ⟨cs.length - 1, by omega⟩
    obtain ⟨x, hx⟩ : ∃ x, cs[m]? = some x := ⟨_, List.getElem?_eq_getElem (by omega)⟩
    have hlast : lastF cs = x.f := by
      unfold lastF
      rw [List.getLast?_eq_getElem?, hm, Nat.add_sub_cancel, hx]
    obtain ⟨g, hg⟩ : ∃ g, A = some ⟨g, 0, none⟩ := by
      obtain ⟨_, ⟨e, h1⟩ | ⟨g, cap, cur, e, _⟩⟩ := hrow
      · exact absurd h1 h0
      · cases e; exact ⟨g, rfl⟩
    subst hg
    have r2 : W.rangeAt g (m * 14 + 2) (vl x.f) := fun j u hj => by
      have hj2 : j < 12 := by have := (List.getElem?_eq_some_iff.1 hj).1; rwa [vl_len] at this
      have h1 := cts_get cs m x (2 + j) hx (by omega)
      rw [ct_2, hj] at h1
      have h2 := hrow.cells rfl (14 * m + (2 + j)) u h1
      unfold Addr.add at h2
      rw [show m * 14 + 2 + j = 0 + (14 * m + (2 + j)) by omega]
      simpa using h2
    rw [hlast]
    have hgW : g ≠ W.heap.size := Nat.ne_of_lt (hrow.lt g rfl).2
    obtain ⟨n, hn⟩ : ∃ n, n = cs.length := ⟨_, rfl⟩
    rw [← hn] at c2 hm
    have hn2 : n ≤ 100000 := by omega
    clear hn hs hrow hl hx hlast h0 hc b0
    have ew1 : wrap64 ((n : Int) - 1) = (m : Nat) := by clear htW hgW; unfold wrap64; omega
    have ew2 : IntKind.i64.wrap ((n : Int) - 1) = (m : Nat) := by clear htW hgW ew1; rw [IntKind.wrap_i64]; omega
    have q0 : ((n : Int) == 0) = false := by clear ew1 ew2 htW hgW; simp; omega
    have q1 : ¬ (n : Int) = 0 := by clear ew1 ew2 htW hgW; omega
    have q2 : m < n := by clear ew1 ew2 htW hgW; omega
    have HNE := Lib.hid (And.intro htW hgW)
    clear hm hn2 htW hgW
    have b0 : Below W.heap.size W (W.alloc (.cells (vl (fun _ => 0)).toArray 33)) := (Below.refl _ W).alloc (Nat.le_refl _) _
    rw [vl_zero] at b0
    have r2' := range_below' b0 r2
    go_enter Try.func20, Try.ntmps20
    go_upto_region 3 with fail
    obtain ⟨w1, hw1⟩ : ∃ w1, w1 = W.alloc (.cells #[.int .u32 0, .int .u32 0, .int .u32 0, .int .u32 0, .int .u32 0, .int .u32 0, .int .u32 0, .int .u32 0, .int .u32 0, .int .u32 0, .int .u32 0, .int .u32 0] 33) := ⟨_, rfl⟩
    have bx : Blk w1 W.heap.size 33 (vl (fun _ => 0)).toArray := by rw [hw1, vl_zero]; exact Blk.new _ _ _
    rw [← hw1] at b0 c2 r2' ⊢
    clear hw1 r2
    refine wp_region_tree (S := (fun w' => w'.cell? ⟨t, 2, none⟩ = some (.slice (some ⟨g, 0, none⟩) n c) ∧ w'.rangeAt g (m * 14 + 2) (vl x.f))) (.take 0 (.take 1 (.take 2 (.take 3 (.take 4 (.take 5 (.take 6 (.take 7 (.take 8 (.take 9 (.take 10 (.take 11 (.take 12 (.one 13 .nil)))))))))))))) 9999 (by kernel_rfl) (by kernel_rfl) (by kernel_rfl) (by kernel_rfl) (by kernel_rfl) (fun _ _ d _ _ h => by cases d <;> exact h) ⟨c2, r2'⟩ (fun hHeld => ?_); simp only [Tree.map, List.getElem?_toArray, List.getElem?_cons_zero, List.getElem?_cons_succ]
    (repeat (first | (refine wpTree.take (v := undef) (Or.inr ⟨by rfl, rfl⟩) ?_; simp only [Act.put, List.setIfInBounds_toArray, List.set_cons_zero, List.set_cons_succ]) | (refine wpTree.take (v := .agg (vl ?_).toArray) (yieldsIf_load_mid rfl 33 _ rfl _ _ rfl (vl _) _ ?_ Try.underlying33 rfl (vinfoL _)) ?_; rotate_left; (focus (intro _ hS; (try dsimp only at hS); go_split_ands; (first | assumption | exact Blk.range (by assumption)))); simp only [Act.put, List.setIfInBounds_toArray, List.set_cons_zero, List.set_cons_succ]) | (refine wpTree.take (v := ?_) (Or.inl ⟨by rfl, ?_⟩) ?_; rotate_left; (focus (intro _ hS; (try dsimp only at hS); go_split_ands; (try subst hS); go_simp; (try (with_reducible rfl)); done)); simp only [Act.put, List.setIfInBounds_toArray, List.set_cons_zero, List.set_cons_succ])))
    refine wpTree.one (fun K hK => ?_)
    (refine step_store_blk (by rfl) 33 _ _ rfl _ 33 ?_ (vl _).toArray rfl rfl ?_ (vinfo _) ?_ (vl_all _) ?_; rotate_left; (focus ((first | assumption | ((repeat' (first | assumption | ((with_reducible refine Blk.new' ?_); (first | rfl | (simp; done))) | ((with_reducible refine Blk.newRow ?_); (first | rfl | (simp; done))) | ((with_reducible refine Blk.farRow ?_ ?_ _); rotate_left; (first | (simp; done) | (simp; omega) | omega)) | (with_reducible refine Blk.alloc ?_ _) | (with_reducible refine Blk.drew ?_) | ((with_reducible refine Blk.far ?_ ?_ _); rotate_left; (first | (simp; done) | (simp; omega) | omega)) | (with_reducible refine Blk.next' (by assumption) ?_))); done)))); (focus (first | exact (vl_size _).trans (vl_size _).symm | exact (vl_size _).symm)))
    have bx2 : Blk (w1.drew.setRow W.heap.size (vl x.f).toArray) W.heap.size 33 (vl x.f).toArray := bx.drew.setRow _
    have hb : Below W.heap.size W (w1.drew.setRow W.heap.size (vl x.f).toArray) := below_setRow b0.drew (Nat.le_refl _) _
    obtain ⟨htW, hgW⟩ := HNE.out
    have hS2 : (w1.drew.setRow W.heap.size (vl x.f).toArray).cell? ⟨t, 2, none⟩ = some (.slice (some ⟨g, 0, none⟩) n c) ∧ (w1.drew.setRow W.heap.size (vl x.f).toArray).rangeAt g (m * 14 + 2) (vl x.f) := by
      have h1 : ∀ k, k ≠ W.heap.size → (w1.drew.setRow W.heap.size (vl x.f).toArray).heap[k]? = w1.heap[k]? := fun k hk => setRow_other w1.drew W.heap.size k _ hk
      exact ⟨(World.cell?_of_block (h1 t htW)).trans hHeld.1, fun j u hj => (World.cell?_of_block (h1 g hgW)).trans (hHeld.2 j u hj)⟩
    refine hK.out _ _ hS2 (fun _ => ?_)
    clear hK K
    (try simp only [Act.put, List.setIfInBounds_toArray, List.set_cons_zero, List.set_cons_succ])
    refine wpTree.done ?_
    go_wp2_with fail
    (refine bodyPost_row (t := 33) (vl x.f).toArray rfl rfl rfl Try.underlying33 rfl (vinfo _) ?_ ?_; (focus ((first | assumption | ((repeat' (first | assumption | ((with_reducible refine Blk.new' ?_); (first | rfl | (simp; done))) | ((with_reducible refine Blk.newRow ?_); (first | rfl | (simp; done))) | ((with_reducible refine Blk.farRow ?_ ?_ _); rotate_left; (first | (simp; done) | (simp; omega) | omega)) | (with_reducible refine Blk.alloc ?_ _) | (with_reducible refine Blk.drew ?_) | ((with_reducible refine Blk.far ?_ ?_ _); rotate_left; (first | (simp; done) | (simp; omega) | omega)) | (with_reducible refine Blk.next' (by assumption) ?_))); done)))))
    exact ⟨rfl, hb⟩
end
def rightS (s : St) : Bool := if s.h then decide (1 ≤ s.t) && decide (s.t ≤ 1099511627776) && decide (maxK s.f 11 ≤ 1048576) else decide (s.t = 0) && eqB s.f (fun _ => 0)
/-- A box that holds a stance. -/
theorem st_all {W : World} {b : Nat} {t : TypeId} {s : St} (h : Blk W b t s.cells.toArray) : W.rangeAt b 0 s.cells ∧ W.rangeAt b 2 (vl s.f) ∧ W.cell? ⟨b, 0, none⟩ = some (.bool s.h) ∧ W.cell? ⟨b, 1, none⟩ = some (.int .u64 (s.t : Nat)) := by
  have hc : ∀ i, W.cell? ⟨b, i, none⟩ = s.cells[i]? := fun i => by rw [h.cell, List.getElem?_toArray]
  exact ⟨h.range, fun j v hv => by rw [hc, st_2, hv], (hc 0).trans (st_0 s), (hc 1).trans (st_1 s)⟩
theorem ct_all {W : World} {b : Nat} {t : TypeId} {s : Ct} (h : Blk W b t s.cells.toArray) : W.rangeAt b 0 s.cells ∧ W.rangeAt b 2 (vl s.f) ∧ W.cell? ⟨b, 0, none⟩ = some (.int .i64 s.o) ∧ W.cell? ⟨b, 1, none⟩ = some (.int .u64 (s.t : Nat)) := by
  have hc : ∀ i, W.cell? ⟨b, i, none⟩ = s.cells[i]? := fun i => by rw [h.cell, List.getElem?_toArray]
  exact ⟨h.range, fun j v hv => by rw [hc, ct_2, hv], (hc 0).trans (ct_0 s), (hc 1).trans (ct_1 s)⟩
def beatsB (a b : Ct) : Bool := decide (orK (fun i => if i = 0 then cmpI (a.t : Nat) (b.t : Nat) else cmpI a.o b.o) 2 0 < 0)
set_option maxRecDepth 20000 in
set_option maxHeartbeats 4000000 in
theorem beats_any (a b : Ct) (W : World) : Calls Try.prog 35 #[.agg a.cells.toArray, .agg b.cells.toArray] W fun e W' => e = .returned (.bool (beatsB a b)) ∧ Below W.heap.size W W' := by
  have bA := (Blk.new W 47 a.cells.toArray).alloc (.cells b.cells.toArray 47)
  have bB : Blk ((W.alloc (.cells a.cells.toArray 47)).alloc (.cells b.cells.toArray 47)) (W.heap.size + 1) 47 b.cells.toArray := Blk.new' (by simp)
  have h2 : Below W.heap.size W ((W.alloc (.cells a.cells.toArray 47)).alloc (.cells b.cells.toArray 47)) := ((Below.refl _ _).alloc (Nat.le_refl _) _).alloc (by simp) _
  obtain ⟨-, -, a0, a1⟩ := ct_all bA
  obtain ⟨-, -, b0, b1⟩ := ct_all bB
  have HB2 := Lib.hid h2
  clear bA bB h2
  go_enter Try.func35, Try.ntmps35
  go_upto_region 1 with fail
  obtain ⟨w2, hw2⟩ : ∃ w2, w2 = (W.alloc (.cells a.cells.toArray 47)).alloc (.cells b.cells.toArray 47) := ⟨_, rfl⟩
  rw [← hw2] at HB2 a0 a1 b0 b1 ⊢
  clear hw2
  refine wp_region_tree (S := (fun w' => w'.cell? ⟨W.heap.size, 1, none⟩ = some (.int .u64 (a.t : Nat)) ∧ w'.cell? ⟨W.heap.size + 1, 1, none⟩ = some (.int .u64 (b.t : Nat)) ∧ w'.cell? ⟨W.heap.size, 0, none⟩ = some (.int .i64 a.o) ∧ w'.cell? ⟨W.heap.size + 1, 0, none⟩ = some (.int .i64 b.o))) (.take 0 (.take 1 (.take 2 (.take 3 (.take 5 (.take 6 (.take 7 (.take 8 (.one 4 (.one 9 (.one 10 (.one 11 (.take 12 (.take 13 .nil)))))))))))))) 9999 (by kernel_rfl) (by kernel_rfl) (by kernel_rfl) (by kernel_rfl) (by kernel_rfl) (fun _ _ d _ _ h => by cases d <;> exact h) ⟨a1, b1, a0, b0⟩ (fun hHeld => ?_); simp only [Tree.map, List.getElem?_toArray, List.getElem?_cons_zero, List.getElem?_cons_succ]
  (repeat (first | (refine wpTree.take (v := undef) (Or.inr ⟨by rfl, rfl⟩) ?_; simp only [Act.put, List.setIfInBounds_toArray, List.set_cons_zero, List.set_cons_succ]) | (refine wpTree.take (v := ?_) (Or.inl ⟨by rfl, ?_⟩) ?_; rotate_left; (focus (intro _ hS; (try dsimp only at hS); go_split_ands; (try subst hS); go_simp; (try (with_reducible rfl)); done)); simp only [Act.put, List.setIfInBounds_toArray, List.set_cons_zero, List.set_cons_succ])))
  refine wpTree.one (fun K hK => ?_)
  go_simp
  go_at_call 45
  refine (cmp64_any _ _ _).mono ?_
  rintro e w3 ⟨rfl, rfl⟩
  refine hK.out _ _ hHeld (fun _ => ?_)
  clear hK K
  (try simp only [Act.put, List.setIfInBounds_toArray, List.set_cons_zero, List.set_cons_succ])
  refine wpTree.one (fun K hK => ?_)
  go_simp
  go_at_call 46
  refine (cmpi_any _ _ _).mono ?_
  rintro e w3 ⟨rfl, rfl⟩
  refine hK.out _ _ hHeld (fun _ => ?_)
  clear hK K
  (try simp only [Act.put, List.setIfInBounds_toArray, List.set_cons_zero, List.set_cons_succ])
  refine wpTree.one (fun K hK => ?_)
  go_simp
  have hb3 : Below w2.drew.heap.size w2.drew (w2.alloc (.cells #[.int .i64 (cmpI (a.t : Nat) (b.t : Nat)), .int .i64 (cmpI a.o b.o)] 3)).drew := (Below.refl w2.heap.size w2.drew).alloc (Nat.le_refl _) _
  have hS := And.intro (cell_next hb3 hHeld.1) (And.intro (cell_next hb3 hHeld.2.1) (And.intro (cell_next hb3 hHeld.2.2.1) (cell_next hb3 hHeld.2.2.2)))
  refine hK.out _ _ hS (fun _ => ?_)
  clear hK K hHeld
  (try simp only [Act.put, List.setIfInBounds_toArray, List.set_cons_zero, List.set_cons_succ])
  have bn : Blk (w2.alloc (.cells #[.int .i64 (cmpI (a.t : Nat) (b.t : Nat)), .int .i64 (cmpI a.o b.o)] 3)).drew w2.heap.size 3 #[.int .i64 (cmpI (a.t : Nat) (b.t : Nat)), .int .i64 (cmpI a.o b.o)] := Blk.new w2 _ _
  refine wpTree.one (fun K hK => ?_)
  go_simp
  go_at_call 44
  refine (or_any (fun i => if i = 0 then cmpI (a.t : Nat) (b.t : Nat) else cmpI a.o b.o) 2 w2.heap.size 0 2 _ (fun i hi => ?_) (by decide)).mono ?_
  · rw [Nat.zero_add, bn.cell]
    rcases i with _ | _ | i
    · rfl
    · rfl
    · omega
  rintro e w3 ⟨rfl, rfl⟩
  refine hK.out _ _ hS (fun _ => ?_)
  clear hK K
  (try simp only [Act.put, List.setIfInBounds_toArray, List.set_cons_zero, List.set_cons_succ])
  obtain ⟨z, hz⟩ : ∃ z, z = orK (fun i => if i = 0 then cmpI (a.t : Nat) (b.t : Nat) else cmpI a.o b.o) 2 0 := ⟨_, rfl⟩
  have HZ := Lib.hid (show beatsB a b = decide (z < 0) by rw [hz]; rfl)
  rw [← hz]
  clear hz
  (repeat (first | (refine wpTree.take (v := undef) (Or.inr ⟨by rfl, rfl⟩) ?_; simp only [Act.put, List.setIfInBounds_toArray, List.set_cons_zero, List.set_cons_succ]) | (refine wpTree.take (v := ?_) (Or.inl ⟨by rfl, ?_⟩) ?_; rotate_left; (focus (intro _ hS; (try dsimp only at hS); go_split_ands; (try subst hS); go_simp; (try (with_reducible rfl)); done)); simp only [Act.put, List.setIfInBounds_toArray, List.set_cons_zero, List.set_cons_succ])))
  refine wpTree.done ?_
  go_wp2_with fail
  go_ret
  exact ⟨by rw [HZ.out]; rfl, HB2.out.drew.trans (hb3.mono HB2.out.size)⟩
end Go.Proofs.Ytbnapbjmffajfaa

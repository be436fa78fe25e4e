/-
The fixed calls of layer 4: what 'alive' hands back.
-/
import Derived.Test.YtjloendkkmkhhaaRefs3
namespace Go.Proofs.Ytjloendkkmkhhaa
open Go.RowKit

theorem dinfo (u v : Value) : (Try.prog.info? 26).map (·.size) = some (#[u, v] : Array Value).size := by
  have : (Try.prog.info? 26).map (·.size) = some 2 := by kernel_rfl
  exact this

def vA (i : Nat) : Nat := if i = 0 then 1 else if i = 2 then 2 else 0
def vB (i : Nat) : Nat := if i = 1 then 3 else 0
def vC (i : Nat) : Nat := if i = 0 then 1 else if i = 1 then 3 else if i = 2 then 2 else 0
def vD (i : Nat) : Nat := if i = 0 then 1 else 0
theorem lit_A : (#[.int .u32 1, .int .u32 0, .int .u32 2, .int .u32 0, .int .u32 0, .int .u32 0, .int .u32 0, .int .u32 0, .int .u32 0, .int .u32 0, .int .u32 0, .int .u32 0] : Array Value) = (vl vA).toArray := by unfold vl; rfl
theorem lit_B : (#[.int .u32 0, .int .u32 3, .int .u32 0, .int .u32 0, .int .u32 0, .int .u32 0, .int .u32 0, .int .u32 0, .int .u32 0, .int .u32 0, .int .u32 0, .int .u32 0] : Array Value) = (vl vB).toArray := by unfold vl; rfl
theorem lit_C : (#[.int .u32 1, .int .u32 3, .int .u32 2, .int .u32 0, .int .u32 0, .int .u32 0, .int .u32 0, .int .u32 0, .int .u32 0, .int .u32 0, .int .u32 0, .int .u32 0] : Array Value) = (vl vC).toArray := by unfold vl; rfl
theorem lit_D : (#[.int .u32 1, .int .u32 0, .int .u32 0, .int .u32 0, .int .u32 0, .int .u32 0, .int .u32 0, .int .u32 0, .int .u32 0, .int .u32 0, .int .u32 0, .int .u32 0] : Array Value) = (vl vD).toArray := by unfold vl; rfl
theorem built_A : Try.prog.built 24 [(0, .int .u32 1), (1, .int .u32 0), (2, .int .u32 2)] = some (vl vA).toArray := by rw [← lit_A]; kernel_rfl
theorem built_B : Try.prog.built 24 [(0, .int .u32 0), (1, .int .u32 3)] = some (vl vB).toArray := by rw [← lit_B]; kernel_rfl
theorem built_C : Try.prog.built 24 [(0, .int .u32 1), (1, .int .u32 3), (2, .int .u32 2)] = some (vl vC).toArray := by rw [← lit_C]; kernel_rfl
theorem built_D : Try.prog.built 24 [(0, .int .u32 1)] = some (vl vD).toArray := by rw [← lit_D]; kernel_rfl
theorem join_AB : vl (joinL [vA, vB]) = vl vC := vl_ext (by
  intro i hi
  match i, hi with
  | 0, _ | 1, _ | 2, _ | 3, _ | 4, _ | 5, _ | 6, _ | 7, _ | 8, _ | 9, _ | 10, _ | 11, _ => rfl)
theorem next_C (w : World) : Calls Try.prog 9 #[.agg (vl vC).toArray, .int .i64 2] w fun e w' => e = .returned (.tuple #[.agg #[.int .i64 2, .int .u32 4], .int .i64 0]) ∧ Below w.heap.size w w' := by
  have h : nextD vC 2 = (2, 4, 0) := by decide +kernel
  have := next_any vC 2 w
  rw [h] at this; exact this
theorem next_13 (w : World) : Calls Try.prog 9 #[.agg (vl vC).toArray, .int .i64 13] w fun e w' => e = .returned (.tuple #[.agg #[.int .i64 0, .int .u32 0], .int .i64 11]) ∧ Below w.heap.size w w' := by
  have h : nextD vC 13 = (0, 0, 11) := by decide +kernel
  have := next_any vC 13 w
  rw [h] at this; exact this
theorem has_3 (w : World) : Calls Try.prog 24 #[.agg (vl vC).toArray, .agg #[.int .i64 2, .int .u32 3]] w fun e w' => e = .returned (.bool true) ∧ Below w.heap.size w w' := by
  have h : hasB vC 2 3 = true := by decide +kernel
  have := has_any vC 2 3 w
  rw [h] at this; exact this
theorem has_4 (w : World) : Calls Try.prog 24 #[.agg (vl vC).toArray, .agg #[.int .i64 2, .int .u32 4]] w fun e w' => e = .returned (.bool false) ∧ Below w.heap.size w w' := by
  have h : hasB vC 2 4 = false := by decide +kernel
  have := has_any vC 2 4 w
  rw [h] at this; exact this
theorem order_D (w : World) : Calls Try.prog 28 #[.agg (vl vC).toArray, .agg (vl vD).toArray] w fun e w' => e = .returned (.int .i64 1) ∧ Below w.heap.size w w' := by
  have h : ordI vC vD = 1 := by decide +kernel
  have := order_any vC vD w
  rw [h] at this; exact this
theorem count_C (w : World) : Calls Try.prog 26 #[.agg (vl vC).toArray] w fun e w' => e = .returned (.int .u64 6) ∧ Below w.heap.size w w' := by
  have h : sumK vC 12 = 6 := by decide +kernel
  have := count_any vC w (by intro i; unfold vC; (repeat' split) <;> omega)
  rw [h] at this; exact this

set_option maxHeartbeats 2000000 in
theorem alive_any (w : World) : Calls Try.prog 17 #[] w fun e w' => e = .returned (.bool true) ∧ Below w.heap.size w w' := by
  have heq : ∀ w, (Op.equalIn 10000 24 (.agg (vl vC).toArray) (.agg (vl vC).toArray)).run Try.prog w = .ok true w := fun w => by
    have := run_equalIn_vec 9998 vC vC w
    rwa [(eqB_iff vC vC).2 (fun _ _ => rfl)] at this
  go_enter Try.func17, Try.ntmps17
  go_wp2_with (first | (first | (refine wpList_load_blk rfl 24 _ rfl _ rfl 24 (vl ?_).toArray _ ?_ Try.underlying24 rfl (vinfo _) ?_; rotate_left; (focus ((first | assumption | ((repeat' (first | assumption | ((with_reducible refine Blk.new' ?_); (first | rfl | (simp; done))) | ((with_reducible refine Blk.newRow ?_); (first | rfl | (simp; done))) | ((with_reducible refine Blk.farRow ?_ ?_ _); rotate_left; (first | (simp; done) | (simp; omega) | omega)) | (with_reducible refine Blk.alloc ?_ _) | (with_reducible refine Blk.drew ?_) | ((with_reducible refine Blk.far ?_ ?_ _); rotate_left; (first | (simp; done) | (simp; omega) | omega)) | (with_reducible refine Blk.next' (by assumption) ?_))); done))))) | (refine wpList_store_blk rfl 24 _ _ rfl _ 24 ?_ (vl _).toArray rfl rfl ?_ (vinfo _) ?_ (vl_all _) ?_; rotate_left; (focus ((first | assumption | ((repeat' (first | assumption | ((with_reducible refine Blk.new' ?_); (first | rfl | (simp; done))) | ((with_reducible refine Blk.newRow ?_); (first | rfl | (simp; done))) | ((with_reducible refine Blk.farRow ?_ ?_ _); rotate_left; (first | (simp; done) | (simp; omega) | omega)) | (with_reducible refine Blk.alloc ?_ _) | (with_reducible refine Blk.drew ?_) | ((with_reducible refine Blk.far ?_ ?_ _); rotate_left; (first | (simp; done) | (simp; omega) | omega)) | (with_reducible refine Blk.next' (by assumption) ?_))); done)))); (focus (first | exact (vl_size _).trans (vl_size _).symm | exact (vl_size _).symm)); intro _hrow)) | (refine wpList_build_lit (vl vA).toArray rfl 24 _ rfl built_A ?_) | (refine wpList_build_lit (vl vB).toArray rfl 24 _ rfl built_B ?_) | (refine wpList_build_lit (vl vC).toArray rfl 24 _ rfl built_C ?_) | (refine wpList_build_lit (vl vD).toArray rfl 24 _ rfl built_D ?_) | (refine wpList_buildSlice2 rfl _ _ rfl rfl rfl ?_) | (refine wpList_load_blk rfl 26 _ rfl _ rfl 26 #[.int .i64 ?_, .int .u32 ?_] _ ?_ Try.underlying26 rfl (dinfo _ _) ?_; rotate_left; rotate_left; (focus ((first | assumption | ((repeat' (first | assumption | ((with_reducible refine Blk.new' ?_); (first | rfl | (simp; done))) | ((with_reducible refine Blk.newRow ?_); (first | rfl | (simp; done))) | ((with_reducible refine Blk.farRow ?_ ?_ _); rotate_left; (first | (simp; done) | (simp; omega) | omega)) | (with_reducible refine Blk.alloc ?_ _) | (with_reducible refine Blk.drew ?_) | ((with_reducible refine Blk.far ?_ ?_ _); rotate_left; (first | (simp; done) | (simp; omega) | omega)) | (with_reducible refine Blk.next' (by assumption) ?_))); done))))) | ((go_at_call 18; refine (join_any _ [vA, vB] _ (vecs_blk ?_) (by simp)).mono ?_; (focus ((first | assumption | ((repeat' (first | assumption | ((with_reducible refine Blk.new' ?_); (first | rfl | (simp; done))) | ((with_reducible refine Blk.newRow ?_); (first | rfl | (simp; done))) | ((with_reducible refine Blk.farRow ?_ ?_ _); rotate_left; (first | (simp; done) | (simp; omega) | omega)) | (with_reducible refine Blk.alloc ?_ _) | (with_reducible refine Blk.drew ?_) | ((with_reducible refine Blk.far ?_ ?_ _); rotate_left; (first | (simp; done) | (simp; omega) | omega)) | (with_reducible refine Blk.next' (by assumption) ?_))); done)))); rintro e W' ⟨rfl, hb⟩); rw [join_AB]) | (go_at_call_of 9 (Value.int .i64 2); refine (next_C _).mono ?_; rintro e w' ⟨rfl, hb⟩) | (go_at_call 9; refine (next_13 _).mono ?_; rintro e w' ⟨rfl, hb⟩) | (go_at_call_of 24 (Value.int .u32 3); refine (has_3 _).mono ?_; rintro e w' ⟨rfl, hb⟩) | (go_at_call 24; refine (has_4 _).mono ?_; rintro e w' ⟨rfl, hb⟩) | (go_at_call 28; refine (order_D _).mono ?_; rintro e w' ⟨rfl, hb⟩) | (go_at_call 26; refine (count_C _).mono ?_; rintro e w' ⟨rfl, hb⟩))
  go_ret
  exact ⟨rfl, by (repeat' (first | exact Below.refl _ _ | assumption | (with_reducible refine below_alloc' ?_) | (with_reducible refine Below.drew ?_) | (with_reducible refine below_next' (by assumption) ?_) | (with_reducible refine below_setRow ?_ ?_ _) | (with_reducible refine Below.setCell ?_ ?_ _) | (with_reducible refine below_next (by assumption) ?_ ?_) | (with_reducible refine Below.alloc ?_ ?_ _) | exact Nat.le_refl _ | (exact below_size (by assumption)) | (with_reducible refine size_alloc ?_) | (with_reducible refine size_setRow' ?_) | (with_reducible refine size_setCell' ?_) | (with_reducible refine size_next (by assumption) ?_) | omega | (simp; done) | (simp; omega)))⟩
end Go.Proofs.Ytjloendkkmkhhaa

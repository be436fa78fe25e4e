/-
clock.Join: the join of any many vectors that lie in a row.
-/
import Derived.Test.YtbnapbjmffajfaaCalls2
namespace Go.Proofs.Ytbnapbjmffajfaa
open Go.RowKit

def maxF (f g : Nat → Nat) : Nat → Nat := fun i => max (f i) (g i)
def joinL (fs : List (Nat → Nat)) : Nat → Nat := fs.foldl maxF (fun _ => 0)
theorem joinL_nil : joinL [] = fun _ => 0 := rfl
theorem joinL_take (fs : List (Nat → Nat)) (k : Nat) (h : k < fs.length) : joinL (fs.take (k + 1)) = maxF (joinL (fs.take k)) fs[k] := by
  unfold joinL
  rw [List.take_succ_eq_append_getElem h, List.foldl_append]; rfl

/-- Vectors that lie in a row. -/
def Vecs (w : World) (v : Value) (fs : List (Nat → Nat)) : Prop :=
  ∃ a c, v = .slice a fs.length c ∧ (fs = [] ∨ ∃ b off, a = some ⟨b, off, none⟩ ∧ b < w.heap.size ∧ ∀ i, (h : i < fs.length) → w.rangeAt b (off + i * 12) (vl fs[i]))

theorem range_below {B b o : Nat} {w w' : World} {cs : List Value} (h : w.rangeAt b o cs) (hb : Below B w w') (hlt : b < B) : w'.rangeAt b o cs := fun j v hv => by
  rw [hb.cell (p := ⟨b, o + j, none⟩) hlt]; exact h j v hv

theorem join_step {w' : World} {g k : Nat} {acc f : Nat → Nat} {t : TypeId} (h : Blk w' g t (vl (mixK (maxF acc f) acc k)).toArray) :
    Blk (w'.setCell ⟨g, k, none⟩ (.int .u32 (max (acc k : Int) (f k : Int)))) g t (vl (mixK (maxF acc f) acc (k + 1))).toArray := by
  have h2 := h.setCell k (.int .u32 (max (acc k : Int) (f k : Int)))
  rwa [List.setIfInBounds_toArray, mixK_next (maxF acc f) acc k (x := max (acc k : Int) (f k : Int)) (by unfold maxF; omega)] at h2

set_option maxHeartbeats 1000000 in
theorem join_any (v : Value) (fs : List (Nat → Nat)) (w : World) (hv : Vecs w v fs) (hlen : fs.length ≤ 9223372036854775807) :
    Calls Try.prog 34 #[v] w fun e w' => e = .returned (.agg (vl (joinL fs)).toArray) ∧ Below w.heap.size w w' := by
  obtain ⟨a, c, rfl, hrow⟩ := hv
  have HR := Lib.hid hrow
  clear hrow
  go_enter Try.func34, Try.ntmps34
  go_wp2_with (first | (refine wpList_load_blk rfl 33 _ rfl _ rfl 33 (vl ?_).toArray _ ?_ Try.underlying33 rfl (vinfo _) ?_; rotate_left; (focus ((first | assumption | ((repeat' (first | assumption | ((with_reducible refine Blk.new' ?_); (first | rfl | (simp; done))) | ((with_reducible refine Blk.newRow ?_); (first | rfl | (simp; done))) | ((with_reducible refine Blk.farRow ?_ ?_ _); rotate_left; (first | (simp; done) | (simp; omega) | omega)) | (with_reducible refine Blk.alloc ?_ _) | (with_reducible refine Blk.drew ?_) | ((with_reducible refine Blk.far ?_ ?_ _); rotate_left; (first | (simp; done) | (simp; omega) | omega)) | (with_reducible refine Blk.next' (by assumption) ?_))); done))))) | (refine wpList_store_blk rfl 33 _ _ rfl _ 33 ?_ (vl _).toArray rfl rfl ?_ (vinfo _) ?_ (vl_all _) ?_; rotate_left; (focus ((first | assumption | ((repeat' (first | assumption | ((with_reducible refine Blk.new' ?_); (first | rfl | (simp; done))) | ((with_reducible refine Blk.newRow ?_); (first | rfl | (simp; done))) | ((with_reducible refine Blk.farRow ?_ ?_ _); rotate_left; (first | (simp; done) | (simp; omega) | omega)) | (with_reducible refine Blk.alloc ?_ _) | (with_reducible refine Blk.drew ?_) | ((with_reducible refine Blk.far ?_ ?_ _); rotate_left; (first | (simp; done) | (simp; omega) | omega)) | (with_reducible refine Blk.next' (by assumption) ?_))); done)))); (focus (first | exact (vl_size _).trans (vl_size _).symm | exact (vl_size _).symm)); intro _hrow))
  go_loopw [10] (fun i wr => ∃ k : Nat, k ≤ fs.length ∧ i = .int .i64 k ∧ Blk wr w.heap.size 33 #[.int .u32 0, .int .u32 0, .int .u32 0, .int .u32 0, .int .u32 0, .int .u32 0, .int .u32 0, .int .u32 0, .int .u32 0, .int .u32 0, .int .u32 0, .int .u32 0] ∧ Blk wr (w.heap.size + 1) 33 (vl (joinL (fs.take k))).toArray ∧ Below w.heap.size w wr) (fun i _ => fs.length - (intOf i).toNat)
  case atStart => exact ⟨0, Nat.zero_le _, rfl, by (first | assumption | ((repeat' (first | assumption | ((with_reducible refine Blk.new' ?_); (first | rfl | (simp; done))) | ((with_reducible refine Blk.newRow ?_); (first | rfl | (simp; done))) | ((with_reducible refine Blk.farRow ?_ ?_ _); rotate_left; (first | (simp; done) | (simp; omega) | omega)) | (with_reducible refine Blk.alloc ?_ _) | (with_reducible refine Blk.drew ?_) | ((with_reducible refine Blk.far ?_ ?_ _); rotate_left; (first | (simp; done) | (simp; omega) | omega)) | (with_reducible refine Blk.next' (by assumption) ?_))); done)), by rw [List.take_zero, joinL_nil, vl_zero]; (first | assumption | ((repeat' (first | assumption | ((with_reducible refine Blk.new' ?_); (first | rfl | (simp; done))) | ((with_reducible refine Blk.newRow ?_); (first | rfl | (simp; done))) | ((with_reducible refine Blk.farRow ?_ ?_ _); rotate_left; (first | (simp; done) | (simp; omega) | omega)) | (with_reducible refine Blk.alloc ?_ _) | (with_reducible refine Blk.drew ?_) | ((with_reducible refine Blk.far ?_ ?_ _); rotate_left; (first | (simp; done) | (simp; omega) | omega)) | (with_reducible refine Blk.next' (by assumption) ?_))); done)), by (repeat' (first | exact Below.refl _ _ | assumption | (with_reducible refine below_alloc' ?_) | (with_reducible refine Below.drew ?_) | (with_reducible refine below_next' (by assumption) ?_) | (with_reducible refine below_setRow ?_ ?_ _) | (with_reducible refine Below.setCell ?_ ?_ _) | (with_reducible refine below_next (by assumption) ?_ ?_) | (with_reducible refine Below.alloc ?_ ?_ _) | exact Nat.le_refl _ | (exact below_size (by assumption)) | (with_reducible refine size_alloc ?_) | (with_reducible refine size_setRow' ?_) | (with_reducible refine size_setCell' ?_) | (with_reducible refine size_next (by assumption) ?_) | omega | (simp; done) | (simp; omega)))⟩
  case round =>
    obtain ⟨k, hk, rfl, B0, B1, BW⟩ := hrel
    have hs1 := B1.lt
    by_cases hlt : k < fs.length
    · obtain ⟨b, off, rfl, hb, hr⟩ := HR.out.resolve_left (by intro e; rw [e] at hlt; simp at hlt)
      have hrk := range_below (hr k hlt) BW hb
      have hT := Lib.hid (joinL_take fs k hlt)
      clear hr
      obtain ⟨f, hf⟩ : ∃ f, f = fs[k] := ⟨_, rfl⟩
      obtain ⟨acc, hacc⟩ : ∃ acc, acc = joinL (fs.take k) := ⟨_, rfl⟩
      rw [← hf] at hrk hT
      rw [← hacc] at B1 hT
      clear hf hacc
      go_wp2_with (first | (first | (refine wpList_load_blk rfl 33 _ rfl _ rfl 33 (vl ?_).toArray _ ?_ Try.underlying33 rfl (vinfo _) ?_; rotate_left; (focus ((first | assumption | ((repeat' (first | assumption | ((with_reducible refine Blk.new' ?_); (first | rfl | (simp; done))) | ((with_reducible refine Blk.newRow ?_); (first | rfl | (simp; done))) | ((with_reducible refine Blk.farRow ?_ ?_ _); rotate_left; (first | (simp; done) | (simp; omega) | omega)) | (with_reducible refine Blk.alloc ?_ _) | (with_reducible refine Blk.drew ?_) | ((with_reducible refine Blk.far ?_ ?_ _); rotate_left; (first | (simp; done) | (simp; omega) | omega)) | (with_reducible refine Blk.next' (by assumption) ?_))); done))))) | (refine wpList_store_blk rfl 33 _ _ rfl _ 33 ?_ (vl _).toArray rfl rfl ?_ (vinfo _) ?_ (vl_all _) ?_; rotate_left; (focus ((first | assumption | ((repeat' (first | assumption | ((with_reducible refine Blk.new' ?_); (first | rfl | (simp; done))) | ((with_reducible refine Blk.newRow ?_); (first | rfl | (simp; done))) | ((with_reducible refine Blk.farRow ?_ ?_ _); rotate_left; (first | (simp; done) | (simp; omega) | omega)) | (with_reducible refine Blk.alloc ?_ _) | (with_reducible refine Blk.drew ?_) | ((with_reducible refine Blk.far ?_ ?_ _); rotate_left; (first | (simp; done) | (simp; omega) | omega)) | (with_reducible refine Blk.next' (by assumption) ?_))); done)))); (focus (first | exact (vl_size _).trans (vl_size _).symm | exact (vl_size _).symm)); intro _hrow)) | (refine wpList_load_mid rfl 33 _ rfl _ _ rfl (vl ?_) _ ?_ Try.underlying33 rfl (vinfoL _) ?_; rotate_left; (focus assumption)))
      go_loopw [15] (fun i wr => ∃ j : Nat, j ≤ 12 ∧ i = .int .i64 j ∧ Blk wr w.heap.size 33 #[.int .u32 0, .int .u32 0, .int .u32 0, .int .u32 0, .int .u32 0, .int .u32 0, .int .u32 0, .int .u32 0, .int .u32 0, .int .u32 0, .int .u32 0, .int .u32 0] ∧ Blk wr (w.heap.size + 1) 33 (vl (mixK (maxF acc f) acc j)).toArray ∧ Below w.heap.size w wr) (fun i _ => 12 - (intOf i).toNat)
      case atStart => exact ⟨0, Nat.zero_le _, rfl, by (first | assumption | ((repeat' (first | assumption | ((with_reducible refine Blk.new' ?_); (first | rfl | (simp; done))) | ((with_reducible refine Blk.newRow ?_); (first | rfl | (simp; done))) | ((with_reducible refine Blk.farRow ?_ ?_ _); rotate_left; (first | (simp; done) | (simp; omega) | omega)) | (with_reducible refine Blk.alloc ?_ _) | (with_reducible refine Blk.drew ?_) | ((with_reducible refine Blk.far ?_ ?_ _); rotate_left; (first | (simp; done) | (simp; omega) | omega)) | (with_reducible refine Blk.next' (by assumption) ?_))); done)), by rw [mixK_zero]; (first | assumption | ((repeat' (first | assumption | ((with_reducible refine Blk.new' ?_); (first | rfl | (simp; done))) | ((with_reducible refine Blk.newRow ?_); (first | rfl | (simp; done))) | ((with_reducible refine Blk.farRow ?_ ?_ _); rotate_left; (first | (simp; done) | (simp; omega) | omega)) | (with_reducible refine Blk.alloc ?_ _) | (with_reducible refine Blk.drew ?_) | ((with_reducible refine Blk.far ?_ ?_ _); rotate_left; (first | (simp; done) | (simp; omega) | omega)) | (with_reducible refine Blk.next' (by assumption) ?_))); done)), by (repeat' (first | exact Below.refl _ _ | assumption | (with_reducible refine below_alloc' ?_) | (with_reducible refine Below.drew ?_) | (with_reducible refine below_next' (by assumption) ?_) | (with_reducible refine below_setRow ?_ ?_ _) | (with_reducible refine Below.setCell ?_ ?_ _) | (with_reducible refine below_next (by assumption) ?_ ?_) | (with_reducible refine Below.alloc ?_ ?_ _) | exact Nat.le_refl _ | (exact below_size (by assumption)) | (with_reducible refine size_alloc ?_) | (with_reducible refine size_setRow' ?_) | (with_reducible refine size_setCell' ?_) | (with_reducible refine size_next (by assumption) ?_) | omega | (simp; done) | (simp; omega)))⟩
      case round =>
        clear B0 B1 BW hrk _hrow HR
        obtain ⟨j, hj, rfl, B0, B1, BW⟩ := hrel
        by_cases hl : j < 12
        · have h1 : (j : Int) < 12 := by omega
          have c1 := B1.cell j
          rw [List.getElem?_toArray, vl_get hl, mixK_at] at c1
          have c2 := run_index_vec f hl
          have c3 := B1.frozen j
          have N := Lib.hid (join_step B1)
          have N0 := Lib.hid (B0.far (p := ⟨w.heap.size + 1, j, none⟩) (by simp) (.int .u32 (max (acc j : Int) (f j : Int))))
          have N2 := Lib.hid (BW.setCell (p := ⟨w.heap.size + 1, j, none⟩) (by simp) (.int .u32 (max (acc j : Int) (f j : Int))))
          clear B0 B1 BW
          go_wp2_with (first | (refine wpList_load_blk rfl 33 _ rfl _ rfl 33 (vl ?_).toArray _ ?_ Try.underlying33 rfl (vinfo _) ?_; rotate_left; (focus ((first | assumption | ((repeat' (first | assumption | ((with_reducible refine Blk.new' ?_); (first | rfl | (simp; done))) | ((with_reducible refine Blk.newRow ?_); (first | rfl | (simp; done))) | ((with_reducible refine Blk.farRow ?_ ?_ _); rotate_left; (first | (simp; done) | (simp; omega) | omega)) | (with_reducible refine Blk.alloc ?_ _) | (with_reducible refine Blk.drew ?_) | ((with_reducible refine Blk.far ?_ ?_ _); rotate_left; (first | (simp; done) | (simp; omega) | omega)) | (with_reducible refine Blk.next' (by assumption) ?_))); done))))) | (refine wpList_store_blk rfl 33 _ _ rfl _ 33 ?_ (vl _).toArray rfl rfl ?_ (vinfo _) ?_ (vl_all _) ?_; rotate_left; (focus ((first | assumption | ((repeat' (first | assumption | ((with_reducible refine Blk.new' ?_); (first | rfl | (simp; done))) | ((with_reducible refine Blk.newRow ?_); (first | rfl | (simp; done))) | ((with_reducible refine Blk.farRow ?_ ?_ _); rotate_left; (first | (simp; done) | (simp; omega) | omega)) | (with_reducible refine Blk.alloc ?_ _) | (with_reducible refine Blk.drew ?_) | ((with_reducible refine Blk.far ?_ ?_ _); rotate_left; (first | (simp; done) | (simp; omega) | omega)) | (with_reducible refine Blk.next' (by assumption) ?_))); done)))); (focus (first | exact (vl_size _).trans (vl_size _).symm | exact (vl_size _).symm)); intro _hrow))
          go_roundw
          case rel => exact ⟨j + 1, by omega, by go_num, N0.out, N.out, N2.out⟩
          case measure => simp [intOf]; omega
        · obtain rfl : j = 12 := by omega
          have E := B1
          rw [vl_ext (mixK_all (maxF acc f) acc), ← hT.out] at E
          have N0 := Lib.hid B0
          have N1 := Lib.hid E
          have N2 := Lib.hid BW
          clear B0 B1 BW E
          go_wp2_with (first | (refine wpList_load_blk rfl 33 _ rfl _ rfl 33 (vl ?_).toArray _ ?_ Try.underlying33 rfl (vinfo _) ?_; rotate_left; (focus ((first | assumption | ((repeat' (first | assumption | ((with_reducible refine Blk.new' ?_); (first | rfl | (simp; done))) | ((with_reducible refine Blk.newRow ?_); (first | rfl | (simp; done))) | ((with_reducible refine Blk.farRow ?_ ?_ _); rotate_left; (first | (simp; done) | (simp; omega) | omega)) | (with_reducible refine Blk.alloc ?_ _) | (with_reducible refine Blk.drew ?_) | ((with_reducible refine Blk.far ?_ ?_ _); rotate_left; (first | (simp; done) | (simp; omega) | omega)) | (with_reducible refine Blk.next' (by assumption) ?_))); done))))) | (refine wpList_store_blk rfl 33 _ _ rfl _ 33 ?_ (vl _).toArray rfl rfl ?_ (vinfo _) ?_ (vl_all _) ?_; rotate_left; (focus ((first | assumption | ((repeat' (first | assumption | ((with_reducible refine Blk.new' ?_); (first | rfl | (simp; done))) | ((with_reducible refine Blk.newRow ?_); (first | rfl | (simp; done))) | ((with_reducible refine Blk.farRow ?_ ?_ _); rotate_left; (first | (simp; done) | (simp; omega) | omega)) | (with_reducible refine Blk.alloc ?_ _) | (with_reducible refine Blk.drew ?_) | ((with_reducible refine Blk.far ?_ ?_ _); rotate_left; (first | (simp; done) | (simp; omega) | omega)) | (with_reducible refine Blk.next' (by assumption) ?_))); done)))); (focus (first | exact (vl_size _).trans (vl_size _).symm | exact (vl_size _).symm)); intro _hrow))
          go_roundw
          case rel => exact ⟨k + 1, by omega, by go_num, N0.out, N1.out, N2.out⟩
          case measure => simp [intOf]; omega
    · obtain rfl : k = fs.length := by omega
      rw [List.take_length] at B1
      go_wp2_with (first | (refine wpList_load_blk rfl 33 _ rfl _ rfl 33 (vl ?_).toArray _ ?_ Try.underlying33 rfl (vinfo _) ?_; rotate_left; (focus ((first | assumption | ((repeat' (first | assumption | ((with_reducible refine Blk.new' ?_); (first | rfl | (simp; done))) | ((with_reducible refine Blk.newRow ?_); (first | rfl | (simp; done))) | ((with_reducible refine Blk.farRow ?_ ?_ _); rotate_left; (first | (simp; done) | (simp; omega) | omega)) | (with_reducible refine Blk.alloc ?_ _) | (with_reducible refine Blk.drew ?_) | ((with_reducible refine Blk.far ?_ ?_ _); rotate_left; (first | (simp; done) | (simp; omega) | omega)) | (with_reducible refine Blk.next' (by assumption) ?_))); done))))) | (refine wpList_store_blk rfl 33 _ _ rfl _ 33 ?_ (vl _).toArray rfl rfl ?_ (vinfo _) ?_ (vl_all _) ?_; rotate_left; (focus ((first | assumption | ((repeat' (first | assumption | ((with_reducible refine Blk.new' ?_); (first | rfl | (simp; done))) | ((with_reducible refine Blk.newRow ?_); (first | rfl | (simp; done))) | ((with_reducible refine Blk.farRow ?_ ?_ _); rotate_left; (first | (simp; done) | (simp; omega) | omega)) | (with_reducible refine Blk.alloc ?_ _) | (with_reducible refine Blk.drew ?_) | ((with_reducible refine Blk.far ?_ ?_ _); rotate_left; (first | (simp; done) | (simp; omega) | omega)) | (with_reducible refine Blk.next' (by assumption) ?_))); done)))); (focus (first | exact (vl_size _).trans (vl_size _).symm | exact (vl_size _).symm)); intro _hrow))
      (refine bodyPost_row (t := 33) (vl (joinL fs)).toArray rfl rfl rfl Try.underlying33 rfl (vinfo _) ?_ ?_; (focus ((first | assumption | ((repeat' (first | assumption | ((with_reducible refine Blk.new' ?_); (first | rfl | (simp; done))) | ((with_reducible refine Blk.newRow ?_); (first | rfl | (simp; done))) | ((with_reducible refine Blk.farRow ?_ ?_ _); rotate_left; (first | (simp; done) | (simp; omega) | omega)) | (with_reducible refine Blk.alloc ?_ _) | (with_reducible refine Blk.drew ?_) | ((with_reducible refine Blk.far ?_ ?_ _); rotate_left; (first | (simp; done) | (simp; omega) | omega)) | (with_reducible refine Blk.next' (by assumption) ?_))); done)))))
      exact ⟨rfl, by (repeat' (first | exact Below.refl _ _ | assumption | (with_reducible refine below_alloc' ?_) | (with_reducible refine Below.drew ?_) | (with_reducible refine below_next' (by assumption) ?_) | (with_reducible refine below_setRow ?_ ?_ _) | (with_reducible refine Below.setCell ?_ ?_ _) | (with_reducible refine below_next (by assumption) ?_ ?_) | (with_reducible refine Below.alloc ?_ ?_ _) | exact Nat.le_refl _ | (exact below_size (by assumption)) | (with_reducible refine size_alloc ?_) | (with_reducible refine size_setRow' ?_) | (with_reducible refine size_setCell' ?_) | (with_reducible refine size_next (by assumption) ?_) | omega | (simp; done) | (simp; omega)))⟩
end Go.Proofs.Ytbnapbjmffajfaa

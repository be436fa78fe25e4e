/-
The calls of package clock: what each hands back; nothing that was there changes.
-/
import Derived.Test.YtkigaclcmodjaaaGreatRows
import Derived.Test.YtkigaclcmodjaaaGreatVec
import Derived.WalkKit
import Derived.WalkSpells
import Derived.WalkLawsBesides
import Derived.Lib.Hide
import Derived.Lib.MinMax
import Derived.Deep.QuietTactic
import Derived.BigQuiet
namespace Go.Proofs.YtkigaclcmodjaaaGreat
open Go.RowKit

theorem vsize : (Tryz.prog.info? 25).map (·.size) = some 12 := by kernel_rfl
theorem vinfo (f : Nat → Nat) : (Tryz.prog.info? 25).map (·.size) = some (vl f).toArray.size := by rw [vl_size]; exact vsize
theorem vinfoL (f : Nat → Nat) : (Tryz.prog.info? 25).map (·.size) = some (vl f).length := by rw [vl_len]; exact vsize
theorem ret_bool {a b : Bool} (h : a = b) : Ending.returned (.bool a) = .returned (.bool b) := by rw [h]
theorem ret_vec {f g : Nat → Nat} (h : ∀ i, i < 12 → f i = g i) : Ending.returned (.agg (vl f).toArray) = .returned (.agg (vl g).toArray) := by rw [vl_ext h]

theorem esize : (Tryz.prog.info? 23).map (·.size) = some 1 := by kernel_rfl
theorem run_index_vec (f : Nat → Nat) {k : Nat} (h : k < 12) (w : World) : (Instr.index 25 (.agg (vl f).toArray) (.int .i64 (k : Nat))).run Tryz.prog w = .ok (.int .u32 (f k : Nat)) w := by
  have hs : ∀ w, (sizeOf 23).run Tryz.prog w = .ok 1 w := by
    intro w
    have := esize
    cases hq : Tryz.prog.info? 23 with
    | none => simp [hq] at this
    | some i => simp [hq] at this; simp [sizeOf, typeInfo, hq, this]
  have hc := vl_get (f := f) h
  simp [Instr.index, asIntOf, run_underlying Tryz.underlying25, hs, part, isAgg, run_underlying Tryz.underlying23, hc]
  omega
def nodeB (n : Int) : Bool := decide (1 ≤ n) && decide (n ≤ 12)
theorem nodeB_yes {n : Int} (h1 : 1 ≤ n) (h2 : n ≤ 12) : nodeB n = true := by simp [nodeB, h1, h2]
theorem nodeB_no {n : Int} (h : ¬ (1 ≤ n ∧ n ≤ 12)) : nodeB n = false := by simp [nodeB]; omega
attribute [irreducible] nodeB

theorem node_any (n : Int) (w : World) : Calls Tryz.prog 110 #[.int .i64 n] w fun e w' => e = .returned (.bool (nodeB n)) ∧ w = w' := by
  by_cases h : 1 ≤ n
  · by_cases h2 : n ≤ 12
    · have H := Lib.hid (nodeB_yes h h2)
      go_enter Tryz.func110, Tryz.ntmps110
      go_wp2
      go_ret
      exact ⟨ret_bool H.out.symm, rfl⟩
    · have H := Lib.hid (nodeB_no (n := n) (by omega))
      go_enter Tryz.func110, Tryz.ntmps110
      go_wp2
      go_ret
      exact ⟨ret_bool H.out.symm, rfl⟩
  · have H := Lib.hid (nodeB_no (n := n) (by omega))
    go_enter Tryz.func110, Tryz.ntmps110
    go_wp2
    go_ret
    exact ⟨ret_bool H.out.symm, rfl⟩
/-! What the document says of vectors, as functions. -/
def rightB (n : Int) (m : Nat) : Bool := nodeB n && (decide (1 ≤ m) && decide (m ≤ 1048576))
def getN (f : Nat → Nat) (n : Int) : Nat := if nodeB n then f (n - 1).toNat else 0
def withF (f : Nat → Nat) (n : Int) (m : Nat) : Nat → Nat := fun i => if rightB n m && decide ((i : Int) + 1 = n) then max (f i) m else f i
def covB (f g : Nat → Nat) : Bool := (List.range 12).all fun i => decide (g i ≤ f i)
theorem covB_iff (f g : Nat → Nat) : covB f g = true ↔ ∀ i, i < 12 → g i ≤ f i := by
  unfold covB; simp
attribute [irreducible] covB
def hasB (f : Nat → Nat) (n : Int) (m : Nat) : Bool := rightB n m && decide (m ≤ getN f n)
def sumK (f : Nat → Nat) : Nat → Nat
  | 0 => 0
  | k + 1 => sumK f k + f k
def ordI (f g : Nat → Nat) : Int := if covB f g then (if covB g f then 0 else 1) else (if covB g f then -1 else 2)
def nextD (f : Nat → Nat) (n : Int) : Int × Nat × Int := if nodeB n then (if getN f n < 1048576 then (n, getN f n + 1, 0) else (0, 0, 5)) else (0, 0, 11)

theorem node_of {n : Int} (h : nodeB n = true) : ∃ k : Nat, k < 12 ∧ n = (k : Int) + 1 := by
  unfold nodeB at h
  simp at h
  exact ⟨(n - 1).toNat, by omega, by omega⟩

set_option maxHeartbeats 400000 in
theorem get_any (f : Nat → Nat) (n : Int) (w : World) : Calls Tryz.prog 111 #[.agg (vl f).toArray, .int .i64 n] w fun e w' => e = .returned (.int .u32 (getN f n : Nat)) ∧ Below w.heap.size w w' := by
  by_cases hn : nodeB n = true
  · obtain ⟨k, hk, rfl⟩ := node_of hn
    have c1 := vl_get (f := f) hk
    have h0 : (k : Int) < 12 := by omega
    have H := Lib.hid (show getN f ((k : Int) + 1) = f k by unfold getN; rw [if_pos hn]; congr 1; omega)
    go_enter Tryz.func111, Tryz.ntmps111
    go_wp2_with (go_at_call 110; refine (node_any _ _).mono ?_; rintro e w' ⟨rfl, rfl⟩)
    go_ret
    exact ⟨by rw [H.out]; rfl, by (repeat' (first | exact Below.refl _ _ | assumption | (with_reducible refine below_alloc' ?_) | (with_reducible refine Below.drew ?_) | (with_reducible refine below_next' (by assumption) ?_) | (with_reducible refine below_setRow ?_ ?_ _) | (with_reducible refine Below.setCell ?_ ?_ _) | (with_reducible refine below_next (by assumption) ?_ ?_) | (with_reducible refine Below.alloc ?_ ?_ _) | exact Nat.le_refl _ | (exact below_size (by assumption)) | (with_reducible refine size_alloc ?_) | (with_reducible refine size_setRow' ?_) | (with_reducible refine size_setCell' ?_) | (with_reducible refine size_next (by assumption) ?_) | omega | (simp; done) | (simp; omega)))⟩
  · have hn' : nodeB n = false := by simpa using hn
    have H := Lib.hid (show getN f n = 0 by unfold getN; rw [if_neg hn])
    clear hn
    go_enter Tryz.func111, Tryz.ntmps111
    go_wp2_with (go_at_call 110; refine (node_any _ _).mono ?_; rintro e w' ⟨rfl, rfl⟩)
    go_ret
    exact ⟨by rw [H.out]; rfl, by (repeat' (first | exact Below.refl _ _ | assumption | (with_reducible refine below_alloc' ?_) | (with_reducible refine Below.drew ?_) | (with_reducible refine below_next' (by assumption) ?_) | (with_reducible refine below_setRow ?_ ?_ _) | (with_reducible refine Below.setCell ?_ ?_ _) | (with_reducible refine below_next (by assumption) ?_ ?_) | (with_reducible refine Below.alloc ?_ ?_ _) | exact Nat.le_refl _ | (exact below_size (by assumption)) | (with_reducible refine size_alloc ?_) | (with_reducible refine size_setRow' ?_) | (with_reducible refine size_setCell' ?_) | (with_reducible refine size_next (by assumption) ?_) | omega | (simp; done) | (simp; omega)))⟩

end Go.Proofs.YtkigaclcmodjaaaGreat

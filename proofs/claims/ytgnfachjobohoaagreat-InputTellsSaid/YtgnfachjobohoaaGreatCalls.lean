/-
The calls of package clock: what each hands back; nothing that was there changes.
The calls of package clock that write, join or ask others.
-/
import Derived.Test.YtgnfachjobohoaaGreatRows
import Derived.Test.YtgnfachjobohoaaGreatVec
import Derived.WalkKit
import Derived.WalkSpells
import Derived.WalkLawsBesides
import Derived.Lib.Hide
import Derived.Lib.MinMax
import Derived.Deep.QuietTactic
import Derived.BigQuiet
import Derived.Deep.RegionWith
import Derived.Deep.RegionHeld3
namespace Go.Proofs.YtgnfachjobohoaaGreat
open Go.RowKit

theorem vsize : (Tryz.prog.info? 24).map (·.size) = some 12 := by kernel_rfl
theorem vinfo (f : Nat → Nat) : (Tryz.prog.info? 24).map (·.size) = some (vl f).toArray.size := by rw [vl_size]; exact vsize
theorem vinfoL (f : Nat → Nat) : (Tryz.prog.info? 24).map (·.size) = some (vl f).length := by rw [vl_len]; exact vsize
theorem ret_bool {a b : Bool} (h : a = b) : Ending.returned (.bool a) = .returned (.bool b) := by rw [h]
theorem ret_vec {f g : Nat → Nat} (h : ∀ i, i < 12 → f i = g i) : Ending.returned (.agg (vl f).toArray) = .returned (.agg (vl g).toArray) := by rw [vl_ext h]

theorem esize : (Tryz.prog.info? 22).map (·.size) = some 1 := by kernel_rfl
theorem run_index_vec (f : Nat → Nat) {k : Nat} (h : k < 12) (w : World) : (Instr.index 24 (.agg (vl f).toArray) (.int .i64 (k : Nat))).run Tryz.prog w = .ok (.int .u32 (f k : Nat)) w := by
  have hs : ∀ w, (sizeOf 22).run Tryz.prog w = .ok 1 w := by
    intro w
    have := esize
    cases hq : Tryz.prog.info? 22 with
    | none => simp [hq] at this
    | some i => simp [hq] at this; simp [sizeOf, typeInfo, hq, this]
  have hc := vl_get (f := f) h
  simp [Instr.index, asIntOf, run_underlying Tryz.underlying24, hs, part, isAgg, run_underlying Tryz.underlying22, hc]
  omega
def nodeB (n : Int) : Bool := decide (1 ≤ n) && decide (n ≤ 12)
theorem nodeB_yes {n : Int} (h1 : 1 ≤ n) (h2 : n ≤ 12) : nodeB n = true := by simp [nodeB, h1, h2]
theorem nodeB_no {n : Int} (h : ¬ (1 ≤ n ∧ n ≤ 12)) : nodeB n = false := by simp [nodeB]; omega
attribute [irreducible] nodeB

/-! What the document says of vectors, as functions. -/
def rightB (n : Int) (m : Nat) : Bool := nodeB n && (decide (1 ≤ m) && decide (m ≤ 1048576))
def getN (f : Nat → Nat) (n : Int) : Nat := if nodeB n then f (n - 1).toNat else 0
def withF (f : Nat → Nat) (n : Int) (m : Nat) : Nat → Nat := fun i => if rightB n m && decide ((i : Int) + 1 = n) then max (f i) m else f i
def covB (f g : Nat → Nat) : Bool := (List.range 12).all fun i => decide (g i ≤ f i)
theorem covB_iff (f g : Nat → Nat) : covB f g = true ↔ ∀ i, i < 12 → g i ≤ f i := by
  unfold covB; simp
attribute [irreducible] covB
def hasB (f : Nat → Nat) (n : Int) (m : Nat) : Bool := rightB n m && decide (m ≤ getN f n)
def sumK (f : Nat → Nat) : Nat → Nat
  | 0 => 0
  | k + 1 => sumK f k + f k
def ordI (f g : Nat → Nat) : Int := if covB f g then (if covB g f then 0 else 1) else (if covB g f then -1 else 2)
def nextD (f : Nat → Nat) (n : Int) : Int × Nat × Int := if nodeB n then (if getN f n < 1048576 then (n, getN f n + 1, 0) else (0, 0, 5)) else (0, 0, 11)

theorem node_of {n : Int} (h : nodeB n = true) : ∃ k : Nat, k < 12 ∧ n = (k : Int) + 1 := by
  unfold nodeB at h
  simp at h
  exact ⟨(n - 1).toNat, by omega, by omega⟩

end Go.Proofs.YtgnfachjobohoaaGreat
namespace Go.Proofs.YtgnfachjobohoaaGreat
open Go.RowKit

end Go.Proofs.YtgnfachjobohoaaGreat

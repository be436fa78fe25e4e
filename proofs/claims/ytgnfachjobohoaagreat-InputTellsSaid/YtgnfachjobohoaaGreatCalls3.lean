/-
clock.Join: the join of any many vectors that lie in a row.
-/
import Derived.Test.YtgnfachjobohoaaGreatCalls
namespace Go.Proofs.YtgnfachjobohoaaGreat
open Go.RowKit

def maxF (f g : Nat → Nat) : Nat → Nat := fun i => max (f i) (g i)
def joinL (fs : List (Nat → Nat)) : Nat → Nat := fs.foldl maxF (fun _ => 0)
theorem joinL_nil : joinL [] = fun _ => 0 := rfl
theorem joinL_take (fs : List (Nat → Nat)) (k : Nat) (h : k < fs.length) : joinL (fs.take (k + 1)) = maxF (joinL (fs.take k)) fs[k] := by
  unfold joinL
  rw [List.take_succ_eq_append_getElem h, List.foldl_append]; rfl

/-- Vectors that lie in a row. -/
def Vecs (w : World) (v : Value) (fs : List (Nat → Nat)) : Prop :=
  ∃ a c, v = .slice a fs.length c ∧ (fs = [] ∨ ∃ b off, a = some ⟨b, off, none⟩ ∧ b < w.heap.size ∧ ∀ i, (h : i < fs.length) → w.rangeAt b (off + i * 12) (vl fs[i]))

theorem range_below {B b o : Nat} {w w' : World} {cs : List Value} (h : w.rangeAt b o cs) (hb : Below B w w') (hlt : b < B) : w'.rangeAt b o cs := fun j v hv => by
  rw [hb.cell (p := ⟨b, o + j, none⟩) hlt]; exact h j v hv

theorem join_step {w' : World} {g k : Nat} {acc f : Nat → Nat} {t : TypeId} (h : Blk w' g t (vl (mixK (maxF acc f) acc k)).toArray) :
    Blk (w'.setCell ⟨g, k, none⟩ (.int .u32 (max (acc k : Int) (f k : Int)))) g t (vl (mixK (maxF acc f) acc (k + 1))).toArray := by
  have h2 := h.setCell k (.int .u32 (max (acc k : Int) (f k : Int)))
  rwa [List.setIfInBounds_toArray, mixK_next (maxF acc f) acc k (x := max (acc k : Int) (f k : Int)) (by unfold maxF; omega)] at h2

end Go.Proofs.YtgnfachjobohoaaGreat

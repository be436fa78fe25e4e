/-
The document's own functions on vectors: each hands back what package clock does.
-/
import Derived.Test.YtgnfachjobohoaaGreatCalls4
namespace Go.Proofs.YtgnfachjobohoaaGreat
open Go.RowKit

/-- The world of a loop that makes a vector out of two: the two, the result, the one that is made. -/
def Two (w wr : World) (f g h : Nat → Nat) : Prop :=
  Blk wr w.heap.size 24 (vl f).toArray ∧ Blk wr (w.heap.size + 1) 24 (vl g).toArray ∧ Blk wr (w.heap.size + 2) 24 #[.int .u32 0, .int .u32 0, .int .u32 0, .int .u32 0, .int .u32 0, .int .u32 0, .int .u32 0, .int .u32 0, .int .u32 0, .int .u32 0, .int .u32 0, .int .u32 0] ∧ Blk wr (w.heap.size + 3) 24 (vl h).toArray ∧ Below w.heap.size w wr
theorem Two.drew {w wr : World} {f g h : Nat → Nat} (H : Two w wr f g h) : Two w wr.drew f g h := ⟨H.1, H.2.1, H.2.2.1, H.2.2.2.1, H.2.2.2.2.drew⟩
theorem Two.same {w wr : World} {f g h h' : Nat → Nat} (H : Two w wr f g h) (e : vl h = vl h') : Two w wr f g h' := ⟨H.1, H.2.1, H.2.2.1, e ▸ H.2.2.2.1, H.2.2.2.2⟩
theorem Two.set {w wr : World} {f g h : Nat → Nat} (H : Two w wr f g h) (k : Nat) (x : Int) (h' : Nat → Nat) (e : (vl h).set k (.int .u32 x) = vl h') : Two w (wr.setCell ⟨w.heap.size + 3, k, none⟩ (.int .u32 x)) f g h' := by
  refine ⟨H.1.far (by simp) _, H.2.1.far (by simp) _, H.2.2.1.far (by simp) _, ?_, H.2.2.2.2.setCell (by simp) _⟩
  have := H.2.2.2.1.setCell k (.int .u32 x)
  rwa [List.setIfInBounds_toArray, e] at this

end Go.Proofs.YtgnfachjobohoaaGreat

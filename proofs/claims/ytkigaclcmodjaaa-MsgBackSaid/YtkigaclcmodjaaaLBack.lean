/-
LabelBack holds: labels go there and back, in one way alone; cut anywhere, their bytes are none. No condition.
-/
import Derived.Test.YtkigaclcmodjaaaLOpen
namespace Go.Proofs.Ytkigaclcmodjaaa
open Go.ChangeShapes Go.WideShapes Go.ChangeAt Go.RowKit

def zL : Lab := Lab.mk 0 0 0 0 0 (fun _ => 0)
theorem zL_right : rightL zL = false := by unfold rightL timeB zL; simp
theorem zL_cells : zL.cells.toArray = #[.int .u64 0, .int .i64 0, .int .u32 0, .int .i64 0, .int .i64 0, .int .u32 0, .int .u32 0, .int .u32 0, .int .u32 0, .int .u32 0, .int .u32 0, .int .u32 0, .int .u32 0, .int .u32 0, .int .u32 0, .int .u32 0, .int .u32 0] := by unfold Lab.cells vl zL; rfl
theorem zL_range {W : World} {g : Nat} {t : TypeId} (h : Blk W g t #[.int .u64 0, .int .i64 0, .int .u32 0, .int .i64 0, .int .i64 0, .int .u32 0, .int .u32 0, .int .u32 0, .int .u32 0, .int .u32 0, .int .u32 0, .int .u32 0, .int .u32 0, .int .u32 0, .int .u32 0, .int .u32 0, .int .u32 0]) : W.rangeAt g 0 zL.cells := by
  rw [← zL_cells] at h
  exact h.range
attribute [irreducible] zL
theorem ByR.take {W : World} {A : Option Addr} {bs : List Nat} (h : ByR W A bs) (k : Nat) : ByR W A (bs.take k) := by
  rcases h with rfl | ⟨b, p, e, h1, h2⟩
  · left; simp
  · refine Or.inr ⟨b, p, e, h1, fun i x hx => ?_⟩
    rw [List.getElem?_take] at hx
    split at hx
    · exact h2 i x hx
    · cases hx
section
variable {H : Type} {enc : TypeId × Value → H} {w : World}
set_option maxRecDepth 100000 in
/-- Bytes that came in. -/
theorem open_bytes {b0 : Nat} {r : Reach} {v : Value} {d : DataW H} {ps : List MemPlace} (hv : Value.okWide Try.prog w r b0 61 v) (h : DataW.Trod enc Try.prog w 0 (fun _ => true) true 61 v d ps) (hlt : ∀ x ∈ ps, x.block < w.heap.size) :
    ∃ (A : Option Addr) (m c : Nat) (bs : List Nat), v = .slice A m c ∧ bs.length = m ∧ m ≤ c ∧ c ≤ 9223372036854775807 ∧ (∀ x ∈ bs, x < 256) ∧ ByR w A bs ∧ (A = none → bs = []) := by
  obtain ⟨a0, len0, cap0, rfl⟩ := okWide_slice Try.underlying61 hv
  obtain ⟨fuel, hf⟩ := h
  obtain ⟨A, m, c, bs, e, h⟩ := open_bytes_cells hf hlt (fun _ => rfl)
  simp [Value.cells] at e
  obtain ⟨rfl, rfl, rfl⟩ := e
  exact ⟨_, _, _, bs, rfl, h⟩
end

end Go.Proofs.Ytkigaclcmodjaaa

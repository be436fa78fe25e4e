/-
OpBack holds: events go there and back, in one way alone, with all bits of a Price; cut anywhere, or with one byte more, their bytes are none. No condition.
-/
import Derived.Test.YteplplmfepamdaaOOpen
import Derived.Test.YteplplmfepamdaaLBack
namespace Go.Proofs.Yteplplmfepamdaa
open Go.ChangeShapes Go.WideShapes Go.ChangeAt Go.RowKit

theorem src_u8_one (W : World) (x : Nat) : Src (W.alloc (.cells #[.int .u8 (x : Nat)] 5)) (some ⟨W.heap.size, 0, none⟩) 1 (u8s [x]) := Or.inl ⟨_, rfl, fun j u hj => by
  have hj0 : j = 0 := by
    rcases Nat.lt_or_ge j 1 with h | h
    · omega
    · rw [List.getElem?_eq_none (by simpa [u8s] using h)] at hj; cases hj
  subst hj0
  rw [add_plain, cell_of_row _ W.heap.size 0 _ _ _ (heap_alloc_new W _)]
  exact hj⟩
theorem encO_lt (o : OpR) : ∀ y ∈ encO o, y < 256 := by
  intro y hy
  unfold encO at hy
  simp only [List.mem_append] at hy
  rcases hy with h | h | h | h
  · exact enc_lt _ y h
  · split at h
    · exact enc_lt _ y h
    · cases h
  · split at h
    · exact enc_lt _ y h
    · cases h
  · split at h
    · unfold encF at h; exact be8_lt _ y h
    · cases h
theorem encL_lt (l : Lab) : ∀ y ∈ encL l, y < 256 := by
  intro y hy
  unfold encL at hy
  simp only [List.mem_append] at hy
  rcases hy with ((((h | h) | h) | h) | h) | h
  · exact enc_lt _ y h
  · exact enc_lt _ y h
  · exact enc_lt _ y h
  · exact enc_lt _ y h
  · exact enc_lt _ y h
  · exact encV_lt _ y h
theorem encE_lt (x : Ev) : ∀ y ∈ encE x, y < 256 := by
  intro y hy
  unfold encE at hy
  rcases List.mem_append.1 hy with h | h
  · exact encL_lt _ y h
  · exact encO_lt _ y h
def zE : Ev := Ev.mk zL (OpR.mk 0 0 0 0)
theorem zE_right : rightE zE = false := by unfold rightE zE; dsimp only; rw [zL_right, Bool.false_and]
theorem zE_cells : zE.cells.toArray = #[.int .u64 0, .int .i64 0, .int .u32 0, .int .i64 0, .int .i64 0, .int .u32 0, .int .u32 0, .int .u32 0, .int .u32 0, .int .u32 0, .int .u32 0, .int .u32 0, .int .u32 0, .int .u32 0, .int .u32 0, .int .u32 0, .int .u32 0, .int .i64 0, .int .i64 0, .int .i64 0, .float .f64 0] := by
  have h : zL.cells = zLabL := by
    have := congrArg Array.toList zL_cells
    simpa [zLabL] using this
  rw [ev_def]
  unfold zE
  dsimp only
  rw [h, op_cells]
  rfl
theorem zE_range {W : World} {g : Nat} {t : TypeId} (h : Blk W g t #[.int .u64 0, .int .i64 0, .int .u32 0, .int .i64 0, .int .i64 0, .int .u32 0, .int .u32 0, .int .u32 0, .int .u32 0, .int .u32 0, .int .u32 0, .int .u32 0, .int .u32 0, .int .u32 0, .int .u32 0, .int .u32 0, .int .u32 0, .int .i64 0, .int .i64 0, .int .i64 0, .float .f64 0]) : W.rangeAt g 0 zE.cells := by
  rw [← zE_cells] at h
  exact h.range
attribute [irreducible] zE

end Go.Proofs.Yteplplmfepamdaa

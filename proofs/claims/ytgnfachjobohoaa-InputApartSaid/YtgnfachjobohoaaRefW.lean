/-
The document's answers of layer 3: the bytes of numbers, whole numbers, texts, floats, vectors.
-/
import Derived.Test.YtgnfachjobohoaaWrite5
namespace Go.Proofs.Ytgnfachjobohoaa
open Go.RowKit

/-- A call made this row of bytes, and left what was there. -/
def Made (W W' : World) (v : Value) (bs : List Nat) : Prop := W'.ownsRow W.heap.size 5 1 v bs.length (u8s bs) ∧ Below W.heap.size W W'
theorem src_own {W : World} {B : Nat} {v : Value} {bs : List Nat} (h : W.ownsRow B 5 1 v bs.length (u8s bs)) : ∃ A c, v = .slice A bs.length c ∧ Src W A bs.length (u8s bs) := by
  obtain ⟨hl, ⟨rfl, h0⟩ | ⟨k, cap, cur, rfl, hk, hh, hnc, hm, hsz, hcs⟩⟩ := id h
  · have hb0 : bs = [] := List.length_eq_zero_iff.1 h0
    subst hb0
    exact ⟨none, 0, rfl, Or.inr ⟨rfl, rfl, rfl⟩⟩
  · exact ⟨_, _, rfl, Or.inl ⟨_, rfl, h.cells rfl⟩⟩
theorem grown_below {B : Nat} {W W' : World} {v : Value} {n : Nat} {xs : List Value} (hown : W.ownsRow B 5 1 v n xs) (hg : W.grownBy W' v.ownBlock) (hB : B ≤ W.heap.size) : Below B W W' :=
  ⟨hg.os, hg.tape, hg.output, hg.size, fun k hk => hg.block k (by omega) (row_low hown hk)⟩
theorem own_le {W : World} {B B' : Nat} {v : Value} {n : Nat} {xs : List Value} (h : W.ownsRow B 5 1 v n xs) (hB : B' ≤ B) : W.ownsRow B' 5 1 v n xs := by
  obtain ⟨hl, h⟩ := h
  refine ⟨hl, h.imp id ?_⟩
  rintro ⟨g, cap, cur, e, hg, r⟩
  exact ⟨g, cap, cur, e, Nat.le_trans hB hg, r⟩
theorem own_next {W W' : World} {B : Nat} {v : Value} {n : Nat} {xs : List Value} (h : W.ownsRow B 5 1 v n xs) (hb : Below W.heap.size W W') (_hB : B ≤ W.heap.size) : W'.ownsRow B 5 1 v n xs := by
  obtain ⟨hl, h⟩ := h
  refine ⟨hl, h.imp id ?_⟩
  rintro ⟨g, cap, cur, e, hg, hh, r⟩
  refine ⟨g, cap, cur, e, hg, (hb.block g ?_).trans hh, r⟩
  rcases Nat.lt_or_ge g W.heap.size with h1 | h1
  · exact h1
  · rw [Array.getElem?_eq_none h1] at hh; cases hh
theorem own_one {W : World} {B : Nat} (c : Nat) (hB : B ≤ W.heap.size) : (W.alloc (.cells #[.int .u8 (c : Nat)] 5)).ownsRow B 5 1 (.slice (some ⟨W.heap.size, 0, none⟩) 1 1) 1 (u8s [c]) :=
  ⟨rfl, Or.inr ⟨_, 1, _, rfl, hB, heap_alloc_new W _, Nat.le_refl _, by simp [maxLen], rfl, rfl⟩⟩

theorem be8_drop (k i : Nat) (hi : i < 8) : (be8 k).drop (8 - (i + 1)) = (k / 256 ^ i % 256) :: (be8 k).drop (8 - i) := by
  rw [List.drop_eq_getElem_cons (by rw [be8_len]; omega)]
  have h := be8_at k i hi
  rw [show 7 - i = 8 - (i + 1) by omega, List.getElem?_eq_getElem (by rw [be8_len]; omega)] at h
  simp only [Option.getD_some] at h
  rw [h, show 8 - (i + 1) + 1 = 8 - i by omega]

/-- Behind i of the noughts' search: the last number above 0, and one more. -/
theorem topV_next (f : Nat → Nat) (k : Nat) : topV f (k + 1) = if f k = 0 then topV f k else k + 1 := rfl

end Go.Proofs.Ytgnfachjobohoaa

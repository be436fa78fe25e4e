/-
Fixed labels.
Labels there and back: what is written is read as it was, a beginning of it is none; what is read is what would be written.
The fixed calls of layer 5: all hold.
-/
import Derived.Test.YtgnfachjobohoaaLGet
namespace Go.Proofs.Ytgnfachjobohoaa
open Go.RowKit

def aL : Lab := Lab.mk 3 2 1 1 4 (fun _ => 0)
def bL : Lab := Lab.mk 4 1 2 1 0 (lv [1, 1])
def cL : Lab := Lab.mk 3 2 2 1 0 (fun _ => 0)
theorem aL_right : rightL aL = true := by unfold rightL timeB placeB nextB getN nodeB aL; decide
theorem bL_right : rightL bL = true := by unfold rightL timeB placeB nextB getN nodeB bL; decide
theorem cL_right : rightL cL = false := by unfold rightL timeB placeB nextB getN nodeB cL; decide
theorem enc_lo {n : Nat} (h : n < 128) : enc n = [n] := by
  unfold enc
  rw [show n / 128 = 0 by omega, encHi_zero, Nat.mod_eq_of_lt h]; rfl
theorem bL_enc : encL bL = [4, 1, 2, 1, 0, 2, 1, 1] := by
  have h1 : topV (lv [1, 1]) 12 = 2 := by decide
  have h2 : trimV (lv [1, 1]) = [1, 1] := by unfold trimV; rw [h1]; rfl
  show enc 4 ++ enc 1 ++ enc 2 ++ enc 1 ++ enc 0 ++ (enc (topV (lv [1, 1]) 12) ++ encs (trimV (lv [1, 1]))) = _
  rw [h1, h2, enc_lo (by decide), enc_lo (by decide), enc_lo (by decide), enc_lo (by decide)]
  have h3 : encs [1, 1] = [1, 1] := by unfold encs; simp [enc_lo]
  rw [h3]; rfl
theorem bL_read : labP [4, 1, 2, 1, 0, 2, 1, 1] = .ok (bL, []) := by
  have h : mkP bL [] = .ok (bL, []) := by unfold mkP; rw [if_pos bL_right]
  rw [labP_def]
  exact h
theorem abef : befB aL bL = true := by unfold befB hasB rightB getN nodeB aL bL; decide
theorem bbef : befB bL aL = false := by unfold befB hasB rightB getN nodeB aL bL; decide
theorem aless : lessB aL bL = true := by unfold lessB; decide
theorem apast : vl (pastF aL) = vl (lv [0, 1]) := vl_ext fun i hi => by
  unfold pastF withF rightB nodeB aL
  have : i = 0 ∨ i = 1 ∨ i = 2 ∨ i = 3 ∨ i = 4 ∨ i = 5 ∨ i = 6 ∨ i = 7 ∨ i = 8 ∨ i = 9 ∨ i = 10 ∨ i = 11 := by omega
  rcases this with rfl | rfl | rfl | rfl | rfl | rfl | rfl | rfl | rfl | rfl | rfl | rfl <;> decide
theorem eqL_self (l : Lab) : eqL l l = true := by unfold eqL; simp [eqB_self]
theorem aL_cells : aL.cells.toArray = #[.int .u64 3, .int .i64 2, .int .u32 1, .int .i64 1, .int .i64 4, .int .u32 0, .int .u32 0, .int .u32 0, .int .u32 0, .int .u32 0, .int .u32 0, .int .u32 0, .int .u32 0, .int .u32 0, .int .u32 0, .int .u32 0, .int .u32 0] := by
  unfold Lab.cells vl aL; rfl
theorem bL_cells : bL.cells.toArray = #[.int .u64 4, .int .i64 1, .int .u32 2, .int .i64 1, .int .i64 0, .int .u32 1, .int .u32 1, .int .u32 0, .int .u32 0, .int .u32 0, .int .u32 0, .int .u32 0, .int .u32 0, .int .u32 0, .int .u32 0, .int .u32 0, .int .u32 0] := by
  unfold Lab.cells vl bL; rfl
theorem cL_cells : cL.cells.toArray = #[.int .u64 3, .int .i64 2, .int .u32 2, .int .i64 1, .int .i64 0, .int .u32 0, .int .u32 0, .int .u32 0, .int .u32 0, .int .u32 0, .int .u32 0, .int .u32 0, .int .u32 0, .int .u32 0, .int .u32 0, .int .u32 0, .int .u32 0] := by
  unfold Lab.cells vl cL; rfl
theorem vl01 : (vl (lv [0, 1])).toArray = #[.int .u32 0, .int .u32 1, .int .u32 0, .int .u32 0, .int .u32 0, .int .u32 0, .int .u32 0, .int .u32 0, .int .u32 0, .int .u32 0, .int .u32 0, .int .u32 0] := by
  unfold vl; rfl
attribute [irreducible] aL bL cL
end Go.Proofs.Ytgnfachjobohoaa
namespace Go.Proofs.Ytgnfachjobohoaa

theorem bindP_inv {α β : Type} {P : List Nat → Except Int (α × List Nat)} {Q : α → List Nat → Except Int (β × List Nat)} {bs t : List Nat} {y : β} (h : bindP P Q bs = .ok (y, t)) : ∃ x u, P bs = .ok (x, u) ∧ Q x u = .ok (y, t) := by
  unfold bindP at h
  split at h
  · rename_i x u hq; exact ⟨x, u, hq, h⟩
  · cases h
theorem maxK_ext {f g : Nat → Nat} : ∀ k, (∀ i, i ≤ k → f i = g i) → maxK f k = maxK g k
  | 0, h => h 0 (Nat.le_refl _)
  | k + 1, h => by unfold maxK; rw [maxK_ext k (fun i hi => h i (by omega)), h (k + 1) (Nat.le_refl _)]
theorem getN_ext {f g : Nat → Nat} (h : ∀ i, i < 12 → f i = g i) (n : Int) : getN f n = getN g n := by
  unfold getN nodeB
  split
  · rename_i hn
    simp only [Bool.and_eq_true, decide_eq_true_eq] at hn
    exact h _ (by omega)
  · rfl
theorem topV_ext {f g : Nat → Nat} : ∀ k, (∀ i, i < k → f i = g i) → topV f k = topV g k
  | 0, _ => rfl
  | k + 1, h => by unfold topV; rw [topV_ext k (fun i hi => h i (by omega)), h k (by omega)]
theorem trimV_ext {f g : Nat → Nat} (h : ∀ i, i < 12 → f i = g i) : trimV f = trimV g := by
  unfold trimV
  rw [topV_ext 12 h]
  apply List.map_congr_left
  intro i hi
  have := List.mem_range.1 hi
  have := topV_le g 12
  exact h i (by omega)
/-- The same label, but for what is beyond its vector. -/
theorem lab_same {l m : Lab} (h1 : l.t = m.t) (h2 : l.nd = m.nd) (h3 : l.n = m.n) (h4 : l.ca = m.ca) (h5 : l.se = m.se) (h : ∀ i, i < 12 → l.f i = m.f i) : rightL l = rightL m ∧ encL l = encL m ∧ l.cells = m.cells := by
  obtain ⟨t, nd, n, ca, se, f⟩ := l
  obtain ⟨t', nd', n', ca', se', g⟩ := m
  dsimp only at *
  subst h1 h2 h3 h4 h5
  refine ⟨?_, ?_, ?_⟩
  · unfold rightL nextB
    dsimp only
    rw [getN_ext h, maxK_ext 11 (fun i hi => h i (by omega))]
  · unfold encL encV
    dsimp only
    rw [topV_ext 12 h, trimV_ext h]
  · unfold Lab.cells
    dsimp only
    rw [vl_ext h]
/-- As a label is read. -/
def asRead (l : Lab) : Lab := Lab.mk l.t l.nd l.n l.ca l.se (lv (trimV l.f))
theorem asRead_same (l : Lab) : rightL (asRead l) = rightL l ∧ encL (asRead l) = encL l ∧ (asRead l).cells = l.cells := lab_same rfl rfl rfl rfl rfl (lv_trim l.f)
theorem lab_back {l : Lab} (hr : rightL l = true) (hf : ∀ i, l.f i < 4294967296) : Back labP (encL l) (asRead l) := by
  obtain ⟨nd, ca, se, hl, h1, h2, h3, h4, h5, h6, h7, h8⟩ := lab_nats hr
  have hr' := (asRead_same l).1.trans hr
  have hm : Back (mkP (asRead l)) [] (asRead l) := ⟨fun t => by unfold mkP; rw [if_pos hr']; rfl, fun k hk => by simp at hk⟩
  have e1 : asRead l = Lab.mk l.t (nd : Nat) l.n (ca : Nat) (se : Nat) (lv (trimV l.f)) := by unfold asRead; rw [hl]
  rw [e1] at hm ⊢
  have e2 : encL l = enc l.t ++ (enc nd ++ (enc l.n ++ (enc ca ++ (enc se ++ (encV l.f ++ []))))) := by
    rw [hl]; unfold encL; simp [List.append_assoc]
  rw [e2, labP_def]
  exact (small_back _ _ (by omega) (by omega)).bind ((small_back _ _ (by omega) (by omega)).bind ((small_back _ _ (by omega) (by omega)).bind ((small_back _ _ (by omega) (by omega)).bind ((small_back _ _ (by omega) (by omega)).bind ((vector_back _ hf).bind hm)))))
theorem lab_ok {bs t : List Nat} {l : Lab} (hb : ∀ x ∈ bs, x < 256) (h : labP bs = .ok (l, t)) : bs = encL l ++ t ∧ rightL l = true ∧ (∀ i, l.f i < 4294967296) ∧ asRead l = l := by
  rw [labP_def] at h
  obtain ⟨v1, b1, q1, h⟩ := bindP_inv h
  obtain ⟨v2, b2, q2, h⟩ := bindP_inv h
  obtain ⟨v3, b3, q3, h⟩ := bindP_inv h
  obtain ⟨v4, b4, q4, h⟩ := bindP_inv h
  obtain ⟨v5, b5, q5, h⟩ := bindP_inv h
  obtain ⟨v6, b6, q6, h⟩ := bindP_inv h
  unfold mkP at h
  split at h
  · rename_i hr
    cases h
    have e1 := small_one hb q1
    have hb1 : ∀ x ∈ b1, x < 256 := fun x hx => hb x (by rw [e1]; simp [hx])
    have e2 := small_one hb1 q2
    have hb2 : ∀ x ∈ b2, x < 256 := fun x hx => hb1 x (by rw [e2]; simp [hx])
    have e3 := small_one hb2 q3
    have hb3 : ∀ x ∈ b3, x < 256 := fun x hx => hb2 x (by rw [e3]; simp [hx])
    have e4 := small_one hb3 q4
    have hb4 : ∀ x ∈ b4, x < 256 := fun x hx => hb3 x (by rw [e4]; simp [hx])
    have e5 := small_one hb4 q5
    have hb5 : ∀ x ∈ b5, x < 256 := fun x hx => hb4 x (by rw [e5]; simp [hx])
    obtain ⟨e6, e7, e8, e9⟩ := vector_one hb5 q6
    refine ⟨?_, hr, e8, ?_⟩
    · unfold encL
      dsimp only
      rw [e1, e2, e3, e4, e5, e6]
      simp [List.append_assoc]
    · unfold asRead
      dsimp only
      rw [e9]
  · cases h
/-- A proper beginning of a label's bytes is none. -/
theorem lab_cut {l : Lab} (hr : rightL l = true) (hf : ∀ i, l.f i < 4294967296) {k : Nat} (hk : k < (encL l).length) : ∀ m, labP ((encL l).take k) ≠ .ok (m, []) := fun m h => by
  rw [(lab_back hr hf).2 k hk] at h; cases h
theorem lab_yes {l : Lab} (hr : rightL l = true) (hf : ∀ i, l.f i < 4294967296) : labP (encL l) = .ok (asRead l, []) := by
  have := (lab_back hr hf).1 []
  rwa [List.append_nil] at this
end Go.Proofs.Ytgnfachjobohoaa
namespace Go.Proofs.Ytgnfachjobohoaa
open Go.RowKit

theorem bL_lt : ∀ i, bL.f i < 4294967296 := by
  intro i
  unfold bL lv
  match i with
  | 0 => simp
  | 1 => simp
  | i + 2 => simp

/-- Two boxes of fixed labels. -/
def fixB (W : World) : World := ((((W.alloc (.cells #[.int .u64 0, .int .i64 0, .int .u32 0, .int .i64 0, .int .i64 0, .int .u32 0, .int .u32 0, .int .u32 0, .int .u32 0, .int .u32 0, .int .u32 0, .int .u32 0, .int .u32 0, .int .u32 0, .int .u32 0, .int .u32 0, .int .u32 0] 59)).setRow W.heap.size aL.cells.toArray).alloc (.cells #[.int .u64 0, .int .i64 0, .int .u32 0, .int .i64 0, .int .i64 0, .int .u32 0, .int .u32 0, .int .u32 0, .int .u32 0, .int .u32 0, .int .u32 0, .int .u32 0, .int .u32 0, .int .u32 0, .int .u32 0, .int .u32 0, .int .u32 0] 59)).setRow (W.heap.size + 1) bL.cells.toArray)
theorem fixB_size (W : World) : (fixB W).heap.size = W.heap.size + 2 := by simp [fixB]
theorem fixB_below (W : World) : Below W.heap.size W (fixB W) :=
  below_setRow ((below_setRow ((Below.refl _ W).alloc (Nat.le_refl _) _) (Nat.le_refl _) _).alloc (by simp) _) (by omega) _
theorem fixB_a (W : World) : Blk (fixB W) W.heap.size 59 aL.cells.toArray :=
  (((Blk.new W _ _).setRow _).alloc _).farRow (by omega) _
theorem fixB_b (W : World) : Blk (fixB W) (W.heap.size + 1) 59 bL.cells.toArray :=
  (Blk.new' (by simp)).setRow _
attribute [irreducible] fixB

end Go.Proofs.Ytgnfachjobohoaa

/-
A reading and a writer side by side: what both leave as it was.
-/
import Derived.Test.YtnoeogbihjpacaaWrites
namespace Go.Proofs.Ytnoeogbihjpacaa
open Go.RowKit
variable {L : Nat}

/-- All is as it was, but for the reading s, the writer g and its row, and new blocks. -/
def Mix (s g : Nat) (W W' : World) : Prop :=
  W'.os = W.os ∧ W'.tape = W.tape ∧ W'.output = W.output ∧ W.heap.size ≤ W'.heap.size ∧ (∀ k, k < W.heap.size → k ≠ s → k ≠ g → some k ≠ rowOf W g → W'.heap[k]? = W.heap[k]?) ∧ (∀ k, rowOf W' g = some k → rowOf W g = some k ∨ W.heap.size ≤ k)
theorem Mix.refl (s g : Nat) (W : World) : Mix s g W W := ⟨rfl, rfl, rfl, Nat.le_refl _, fun _ _ _ _ _ => rfl, fun _ h => Or.inl h⟩
theorem Mix.trans {s g : Nat} {a b c : World} (h : Mix s g a b) (k : Mix s g b c) : Mix s g a c := by
  obtain ⟨h1, h2, h3, h4, h5, h6⟩ := h
  obtain ⟨k1, k2, k3, k4, k5, k6⟩ := k
  refine ⟨k1.trans h1, k2.trans h2, k3.trans h3, Nat.le_trans h4 k4, fun i hi hs hg hn => ?_, fun i hi => (k6 i hi).elim (h6 i) (fun e => Or.inr (Nat.le_trans h4 e))⟩
  exact (k5 i (Nat.lt_of_lt_of_le hi h4) hs hg (fun e => (h6 i e.symm).elim (fun e' => hn e'.symm) (fun e' => by omega))).trans (h5 i hi hs hg hn)
theorem rowOf_same {W W' : World} {g : Nat} (h : W'.heap[g]? = W.heap[g]?) : rowOf W' g = rowOf W g := by unfold rowOf World.cell?; rw [h]
theorem Mix.ofOff {s g : Nat} {W W' : World} (h : Off s W W') (hg : g < W.heap.size) (hne : g ≠ s) : Mix s g W W' :=
  ⟨h.os, h.tape, h.output, h.size, fun k hk hs _ _ => h.block k hk hs, fun k hk => Or.inl (by rwa [rowOf_same (h.block g hg hne)] at hk)⟩
theorem Mix.ofWrote {s g B : Nat} {W W' : World} (h : Wrote B g W W') : Mix s g W W' :=
  ⟨h.1.os, h.1.tape, h.1.output, h.1.size, fun k hk _ hg hn => h.2.1 k hk hg hn, h.2.2⟩
theorem Mix.row {s g k : Nat} {W W' : World} (h : Mix s g W W') (hk : k < W.heap.size) (hn : some k ≠ rowOf W g) : some k ≠ rowOf W' g := fun e => by
  rcases h.2.2.2.2.2 k e.symm with h1 | h1
  · exact hn h1.symm
  · omega
/-- A block that is neither. -/
def Free (s g k : Nat) (W : World) : Prop := k < W.heap.size ∧ k ≠ s ∧ k ≠ g ∧ some k ≠ rowOf W g
theorem Free.next {s g k : Nat} {W W' : World} (h : Free s g k W) (hM : Mix s g W W') : Free s g k W' := ⟨Nat.lt_of_lt_of_le h.1 hM.2.2.2.1, h.2.1, h.2.2.1, hM.row h.1 h.2.2.2⟩
theorem Free.same {s g k : Nat} {W W' : World} (h : Free s g k W) (hM : Mix s g W W') : W'.heap[k]? = W.heap[k]? := hM.2.2.2.2.1 k h.1 h.2.1 h.2.2.1 h.2.2.2
theorem Free.cell {s g k i : Nat} {W W' : World} (h : Free s g k W) (hM : Mix s g W W') : W'.cell? ⟨k, i, none⟩ = W.cell? ⟨k, i, none⟩ := by simp only [World.cell?]; rw [h.same hM]
theorem Free.range {s g k o : Nat} {W W' : World} {cs : List Value} (h : Free s g k W) (hM : Mix s g W W') (hr : W.rangeAt k o cs) : W'.rangeAt k o cs := fun j v hv => by
  rw [h.cell hM]; exact hr j v hv

/-- The reading and the writer are apart. -/
structure Apart (L s k g B : Nat) (W : World) : Prop where
  sg : s ≠ g
  kg : k ≠ g
  ks : k ≠ s
  s1 : s < W.heap.size
  k1 : k < W.heap.size
  g1 : g < W.heap.size
  sr : some s ≠ rowOf W g
  kr : some k ≠ rowOf W g
  LB : L ≤ B
  Bs : B ≤ W.heap.size
theorem Apart.next {s k g B : Nat} {W W' : World} (h : Apart L s k g B W) (hM : Mix s g W W') : Apart L s k g B W' :=
  { h with s1 := Nat.lt_of_lt_of_le h.s1 hM.2.2.2.1, k1 := Nat.lt_of_lt_of_le h.k1 hM.2.2.2.1, g1 := Nat.lt_of_lt_of_le h.g1 hM.2.2.2.1, sr := hM.row h.s1 h.sr, kr := hM.row h.k1 h.kr, Bs := Nat.le_trans h.Bs hM.2.2.2.1 }
theorem Wtr.off {W W' : World} {B g s : Nat} {ws : List Nat} (h : Wtr W B g ws) (hO : Off s W W') (hg : g ≠ s) (hs : some s ≠ rowOf W g) : Wtr W' B g ws := by
  have hlt := h.lt
  obtain ⟨hB, v, hv, hl, hrow⟩ := h
  refine ⟨hB, v, (hO.block g hlt hg).trans hv, hl, hrow.imp id ?_⟩
  rintro ⟨k, cap, cur, rfl, hk, hh, r⟩
  have hks : k ≠ s := by rintro rfl; exact hs (by rw [rowOf_of hv]; rfl)
  refine ⟨k, cap, cur, rfl, hk, (hO.block k ?_ hks).trans hh, r⟩
  rcases Nat.lt_or_ge k W.heap.size with h1 | h1
  · exact h1
  · rw [Array.getElem?_eq_none h1] at hh; cases hh
theorem RdB.wrote {W W' : World} {B g s : Nat} {bs : List Nat} (h : RdB L W s bs) (hO : Wrote B g W W') (hg : s ≠ g) (hs : some s ≠ rowOf W g) (hL : L ≤ B) : RdB L W' s bs := by
  have hslt := h.lt
  obtain ⟨A, c, ⟨h0, h1, h2, h3⟩, hl, h⟩ := h
  have hb : W'.heap[s]? = W.heap[s]? := hO.2.1 s hslt hg hs
  have hc : ∀ j, W'.cell? ⟨s, j, none⟩ = W.cell? ⟨s, j, none⟩ := fun j => by simp only [World.cell?]; rw [hb]
  have hz : ∀ j, W'.frozen? ⟨s, j, none⟩ = W.frozen? ⟨s, j, none⟩ := fun j => by simp only [World.frozen?]; rw [hb]
  refine ⟨A, c, ⟨(hc 0).trans h0, (hc 1).trans h1, (hc 2).trans h2, fun j => (hz j).trans (h3 j)⟩, hl, h.imp id ?_⟩
  rintro ⟨b, p, e, k1, ⟨k2, k3⟩, k4⟩
  exact ⟨b, p, e, k1, ⟨k2, Nat.lt_of_lt_of_le k3 hO.1.size⟩, fun j x hx => (hO.1.cell (p := ⟨b, p + j, none⟩) (Nat.lt_of_lt_of_le k2 hL)).trans (k4 j x hx)⟩
theorem Rdr.same {W W' : World} {k s : Nat} (h : Rdr W k s) (hb : W'.heap[k]? = W.heap[k]?) : Rdr W' k s := ⟨h.1, by have := h.2; simp only [World.cell?] at this ⊢; rwa [hb]⟩

/-! What is read of a part, as the bytes that are written of it. -/
def partP (p : PartR) (bs : List Nat) : Except Int (List Nat × List Nat) :=
  if p.k = 0 then bindP (numP true 0) (fun v t => .ok (enc v, t)) bs
  else if p.k = 1 then bindP intP (fun i t => .ok (enc (zig i), t)) bs
  else if p.k = 2 then bindP (textP p.mo) (fun x t => .ok (enc x.length ++ x, t)) bs
  else if p.k = 3 then bindP floatP (fun b t => .ok (encF b, t)) bs
  else if p.k = 4 then bindP vectorP (fun l t => .ok (encV (lv l), t)) bs
  else .ok ([], bs)
def partsP : List PartR → List Nat → List Nat → Except Int (List Nat × List Nat)
  | [], acc, bs => .ok (acc, bs)
  | p :: l, acc, bs => match partP p bs with
    | .ok (x, t) => partsP l (acc ++ x) t
    | .error e => .error e
/-- A part of which the statement asks. -/
structure PartR.Good (p : PartR) : Prop where
  i1 : p.k = 1 → -4611686018427387904 ≤ p.i
  i2 : p.k = 1 → p.i ≤ 4611686018427387904
  k5 : p.k ≠ 5
  k6 : p.k ≠ 6
  mo : p.k = 2 → (p.m : Int) ≤ p.mo
  m : p.m ≤ 500
theorem back_map {α : Type} {P : List Nat → Except Int (α × List Nat)} {E : List Nat} {x : α} {F : α → List Nat} (h : Back P E x) (hF : F x = E) : Back (bindP P (fun v t => .ok (F v, t))) E E := by
  have := h.bind (Q := fun v t => .ok (F v, t)) (F := []) (y := E) ⟨fun t => by rw [hF]; rfl, fun k hk => by simp at hk⟩
  rwa [List.append_nil] at this
theorem topV_congr {f g : Nat → Nat} : ∀ k, (∀ i, i < k → f i = g i) → topV f k = topV g k
  | 0, _ => rfl
  | k + 1, h => by unfold topV; rw [h k (by omega), topV_congr k fun i hi => h i (by omega)]
theorem encV_congr {f g : Nat → Nat} (h : ∀ i, i < 12 → f i = g i) : encV f = encV g := by
  have ht := topV_congr 12 h
  unfold encV trimV
  rw [ht]
  congr 2
  apply List.map_congr_left
  intro i hi
  have := topV_le g 12
  exact h i (by have := List.mem_range.1 hi; omega)
theorem part_back {p : PartR} {W : World} {M : Nat} (h : p.Ok W M) (hg : p.Good) : Back (partP p) p.bytes p.bytes := by
  by_cases h0 : p.k = 0
  · rw [bytes_num (Or.inl h0)]
    have := back_map (F := enc) (num_back p.n h.n1) rfl
    unfold partP
    simpa only [if_pos h0] using this
  by_cases h1 : p.k = 1
  · rw [bytes_int h1]
    have := back_map (F := fun i => enc (zig i)) (int_back p.i (hg.i1 h1) (hg.i2 h1)) rfl
    unfold partP
    simpa only [if_neg h0, if_pos h1] using this
  by_cases h2 : p.k = 2
  · rw [bytes_text h2]
    have hm := h.len
    have := back_map (F := fun x => enc x.length ++ x) (text_back p.mo p.bs (by have := hg.m; omega) (by rw [hm]; exact hg.mo h2)) rfl
    unfold partP
    rw [hm] at this
    simpa only [if_neg h0, if_neg h1, if_pos h2] using this
  by_cases h3 : p.k = 3
  · rw [bytes_float h3]
    have := back_map (F := encF) (float_back p.n h.n1) rfl
    unfold partP
    simpa only [if_neg h0, if_neg h1, if_neg h2, if_pos h3] using this
  by_cases h4 : p.k = 4
  · rw [bytes_vector h4]
    have := back_map (F := fun l => encV (lv l)) (vector_back p.f h.f1) (encV_congr (lv_trim p.f))
    unfold partP
    simpa only [if_neg h0, if_neg h1, if_neg h2, if_neg h3, if_pos h4] using this
  · rw [bytes_none h0 h1 h2 h3 h4 hg.k5]
    unfold partP
    simp only [if_neg h0, if_neg h1, if_neg h2, if_neg h3, if_neg h4]
    exact back_pure []
theorem parts_back {W : World} {M : Nat} : ∀ (l : List PartR), (∀ p ∈ l, p.Ok W M ∧ p.Good) → ∀ acc, (∀ t, partsP l acc (l.flatMap PartR.bytes ++ t) = .ok (acc ++ l.flatMap PartR.bytes, t)) ∧ ∀ k, k < (l.flatMap PartR.bytes).length → partsP l acc ((l.flatMap PartR.bytes).take k) = .error 8
  | [], _, acc => ⟨fun t => by simp [partsP], fun k hk => by simp at hk⟩
  | p :: l, h, acc => by
    have hp := part_back (h p (by simp)).1 (h p (by simp)).2
    have ih := parts_back l (fun q hq => h q (by simp [hq])) (acc ++ p.bytes)
    constructor
    · intro t
      rw [List.flatMap_cons, List.append_assoc]
      unfold partsP
      rw [hp.1]
      simp only []
      rw [ih.1, List.append_assoc]
    · intro k hk
      rw [List.flatMap_cons] at hk ⊢
      unfold partsP
      by_cases hlt : k < p.bytes.length
      · rw [List.take_append_of_le_length (by omega), hp.2 k hlt]
      · rw [List.take_append, List.take_of_length_le (by omega), hp.1]
        simp only []
        rw [List.length_append] at hk
        exact ih.2 _ (by omega)
theorem partsP_err {l : List PartR} {p : PartR} {acc bs : List Nat} {e : Int} (h : partP p bs = .error e) : partsP (p :: l) acc bs = .error e := by unfold partsP; rw [h]
theorem partsP_ok {l : List PartR} {p : PartR} {acc bs x t : List Nat} (h : partP p bs = .ok (x, t)) : partsP (p :: l) acc bs = partsP l (acc ++ x) t := by
  conv => lhs; unfold partsP
  rw [h]
end Go.Proofs.Ytnoeogbihjpacaa

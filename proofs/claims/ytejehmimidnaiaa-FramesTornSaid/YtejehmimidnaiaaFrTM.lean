/-
Frames: of which just the first bytes last. No program is named here.
-/
import Derived.Test.YtejehmimidnaiaaFrM
namespace Go.Proofs.Ytejehmimidnaiaa
namespace Fr
set_option linter.unusedSimpArgs false
set_option linter.unusedVariables false
/-- Where the i-th frame ends. -/
def endAt (q : List (Nat × List Nat)) (i : Nat) : Nat := (frames (q.take (i + 1))).length
/-- How many frames are whole among the first i, of which the first La bytes last, and where these end. -/
def tornF (La : Nat) (q : List (Nat × List Nat)) : Nat → Nat × Nat
  | 0 => (0, 0)
  | i + 1 => if endAt q i ≤ La then (i + 1, endAt q i) else tornF La q i
theorem frames_app (a b : List (Nat × List Nat)) : frames (a ++ b) = frames a ++ frames b := by simp [frames]
theorem frames_cons (x : Nat × List Nat) (l : List (Nat × List Nat)) : frames (x :: l) = frame x.1 x.2 ++ frames l := by simp [frames]
theorem frames_take_le (q : List (Nat × List Nat)) {i j : Nat} (h : i ≤ j) : (frames (q.take i)).length ≤ (frames (q.take j)).length := by
  have e : q.take j = q.take i ++ (q.take j).drop i := by
    have := List.take_append_drop i (q.take j)
    rw [List.take_take, Nat.min_eq_left h] at this
    exact this.symm
  rw [e, frames_app, List.length_append]
  omega
theorem frames_take_lt (q : List (Nat × List Nat)) {i j : Nat} (h : i < j) (hi : i < q.length) : (frames (q.take i)).length < (frames (q.take j)).length := by
  have h1 := frames_take_le q (show i + 1 ≤ j from h)
  have h2 : (frames (q.take i)).length < (frames (q.take (i + 1))).length := by
    rw [List.take_succ_eq_append_getElem hi, frames_app, List.length_append]
    simp only [frames, List.flatMap_cons, List.flatMap_nil, List.append_nil, frame_len]
    omega
  omega
theorem torn_at (La : Nat) (q : List (Nat × List Nat)) (w : Nat) (hw : w ≤ q.length) (h1 : (frames (q.take w)).length ≤ La) (h2 : w = q.length ∨ La < (frames (q.take (w + 1))).length) :
    ∀ i, i ≤ q.length → tornF La q i = if i ≤ w then (i, (frames (q.take i)).length) else (w, (frames (q.take w)).length) := by
  intro i
  induction i with
  | zero => intro _; rw [if_pos (Nat.zero_le _)]; simp [tornF, frames]
  | succ i ih =>
    intro hi
    unfold tornF
    by_cases hiw : i + 1 ≤ w
    · rw [if_pos hiw, if_pos]
      · rfl
      · exact Nat.le_trans (frames_take_le q hiw) h1
    · rw [if_neg hiw, if_neg]
      · rw [ih (by omega)]
        by_cases h : i ≤ w
        · have : i = w := by omega
          subst this
          rw [if_pos h]
        · rw [if_neg h]
      · rcases h2 with h2 | h2
        · omega
        · have := frames_take_le q (show w + 1 ≤ i + 1 by omega)
          unfold endAt
          omega
theorem torn_some (La : Nat) (q : List (Nat × List Nat)) : ∃ w, w ≤ q.length ∧ (frames (q.take w)).length ≤ La ∧ (w = q.length ∨ La < (frames (q.take (w + 1))).length) := by
  have : ∀ n, n ≤ q.length → (∃ w, w ≤ n ∧ (frames (q.take w)).length ≤ La ∧ (w = n ∨ La < (frames (q.take (w + 1))).length)) := by
    intro n
    induction n with
    | zero => intro _; exact ⟨0, Nat.le_refl _, by simp [frames], Or.inl rfl⟩
    | succ n ih =>
      intro hn
      obtain ⟨w, h1, h2, h3⟩ := ih (by omega)
      rcases h3 with h3 | h3
      · subst h3
        by_cases h : (frames (q.take (w + 1))).length ≤ La
        · exact ⟨w + 1, Nat.le_refl _, h, Or.inl rfl⟩
        · exact ⟨w, by omega, h2, Or.inr (by omega)⟩
      · exact ⟨w, by omega, h2, Or.inr h3⟩
  exact this q.length (Nat.le_refl _)
theorem torn_read {eF eS : Nat} (q : List (Nat × List Nat)) (hq : ∀ y ∈ q, Fine y) (La Z : Nat) (hLa : La ≤ (frames q).length) :
    (tornF La q q.length).1 ≤ q.length ∧ readB eF eS ((frames q).take La ++ List.replicate Z 0) = (q.take (tornF La q q.length).1, (tornF La q q.length).2, 0) := by
  obtain ⟨w, hw, h1, h2⟩ := torn_some La q
  have ht := torn_at La q w hw h1 h2 q.length (Nat.le_refl _)
  have ht2 : tornF La q q.length = (w, (frames (q.take w)).length) := by
    rw [ht]
    by_cases h : q.length ≤ w
    · have : w = q.length := by omega
      subst this
      rw [if_pos h]
    · rw [if_neg h]
  rw [ht2]
  refine ⟨hw, ?_⟩
  have hsplit : frames q = frames (q.take w) ++ frames (q.drop w) := by rw [← frames_app, List.take_append_drop]
  have e : (frames q).take La = frames (q.take w) ++ (frames (q.drop w)).take (La - (frames (q.take w)).length) := by
    rw [hsplit, List.take_append, List.take_of_length_le h1]
  rw [e, List.append_assoc, readB_frames _ _ (fun y hy => hq y (List.mem_of_mem_take hy))]
  have hz : whole ((frames (q.drop w)).take (La - (frames (q.take w)).length) ++ List.replicate Z 0) = 0 := by
    rcases h2 with h2 | h2
    · subst h2
      have hl : (frames q).length = (frames (q.take q.length)).length := by rw [List.take_length]
      rw [List.drop_length, show frames ([] : List (Nat × List Nat)) = [] from rfl, List.take_nil, List.nil_append]
      have h0 : at' (List.replicate Z 0) 0 = 0 := by
        unfold at'
        rw [List.getD_eq_getElem?_getD, List.getElem?_replicate]
        split <;> rfl
      unfold whole
      rw [if_pos (Or.inr (by rw [h0]; decide))]
    · by_cases hwq : w < q.length
      · have hd : q.drop w = q[w] :: q.drop (w + 1) := List.drop_eq_getElem_cons hwq
        have hlen : (frames (q.take (w + 1))).length = (frames (q.take w)).length + (frame q[w].1 q[w].2).length := by
          rw [List.take_succ_eq_append_getElem hwq, frames_app, List.length_append]
          simp [frames]
        rw [hlen] at h2
        have hf : frames (q.drop w) = frame q[w].1 q[w].2 ++ frames (q.drop (w + 1)) := by rw [hd, frames_cons]
        rw [hf, List.take_append_of_le_length (by omega)]
        exact whole_torn _ _ (hq _ (List.getElem_mem hwq)).2.2.1 (by omega)
      · have : w = q.length := by omega
        subst this
        have hl : (frames (q.take (q.length + 1))).length = (frames q).length := by rw [List.take_of_length_le (by omega)]
        have hl2 : (frames (q.take q.length)).length = (frames q).length := by rw [List.take_length]
        omega
  rw [readB_nil hz]
  simp
end Fr
end Go.Proofs.Ytejehmimidnaiaa

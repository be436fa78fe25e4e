/-
tree: TreeNext's mathematics.
-/
import Derived.Test.YtohnhokddbeheaaTr14
namespace Go.Proofs.Ytohnhokddbeheaa
open Go.RowKit
set_option linter.unusedSimpArgs false
set_option linter.unusedVariables false
namespace Tr
theorem hit_symm {k : Nat → Int} {e : Int × Int} (hv : validB k e = true) {a b : Nat} (ha : a ≤ 12) (hb : b ≤ 12) : hitB e (a * 13 + b) = hitB e (b * 13 + a) := by
  unfold validB at hv
  simp only [Bool.and_eq_true] at hv
  have h1 := there_in hv.1.2
  have h2 := there_in hv.2
  obtain ⟨x, hx⟩ : ∃ x, x = e.1.toNat := ⟨_, rfl⟩
  obtain ⟨y, hy⟩ : ∃ y, y = e.2.toNat := ⟨_, rfl⟩
  unfold hitB
  rw [← hx, ← hy]
  have hx12 : x ≤ 12 := by omega
  have hy12 : y ≤ 12 := by omega
  rw [show decide (a * 13 + b = x * 13 + y) = decide (b * 13 + a = y * 13 + x) from decide_eq_decide.2 (by omega), show decide (a * 13 + b = y * 13 + x) = decide (b * 13 + a = x * 13 + y) from decide_eq_decide.2 (by omega), Bool.or_comm]
theorem found_symm (k : Nat → Int) (es : List (Int × Int)) {a b : Nat} (ha : a ≤ 12) (hb : b ≤ 12) : foundF k es (a * 13 + b) = foundF k es (b * 13 + a) := by
  unfold foundF
  induction es with
  | nil => rfl
  | cons e es ih =>
    rw [List.any_cons, List.any_cons, ih]
    congr 1
    cases hv : validB k e with
    | false => rfl
    | true => rw [hit_symm hv ha hb]
/-- Neighbours are so of each other. -/
theorem jn_symm (t : Tv) (a b : Int) : jnB t a b = jnB t b a := by
  unfold jnB
  cases ha : thereB t.k a with
  | false => simp
  | true =>
    cases hb : thereB t.k b with
    | false => simp
    | true =>
      have h1 := there_in ha
      have h2 := there_in hb
      rw [found_symm t.k t.es (a := a.toNat) (b := b.toNat) (by omega) (by omega)]
theorem jn_there {t : Tv} {a b : Int} (h : jnB t a b = true) : thereB t.k a = true ∧ thereB t.k b = true := by
  unfold jnB at h
  simp only [Bool.and_eq_true] at h
  exact h.1
/-- Is a node among the neighbours? -/
theorem next_mem (t : Tv) (a b : Int) : (∃ n ∈ nextL t a, ((n : Nat) : Int) = b) ↔ jnB t a b = true := by
  unfold nextL
  constructor
  · rintro ⟨n, hn, rfl⟩
    exact (those_mem.1 hn).2.2
  · intro h
    obtain ⟨m, hm, h1, h2⟩ := there_nat (jn_there h).2
    subst hm
    exact ⟨m, those_mem.2 ⟨h1, h2, h⟩, rfl⟩
theorem kind_there {k : Nat → Int} {n : Int} (h : kindV k n = 1 ∨ kindV k n = 2 ∨ kindV k n = 3) : thereB k n = true := by
  unfold thereB noKindB
  rcases h with h | h | h <;> rw [h] <;> decide
/-- A home or a shard of a tree that may be has one neighbour, a serializer. -/
theorem right_leaf {t : Tv} {a : Int} (h : RightP t true) (hk : kindV t.k a = 1 ∨ kindV t.k a = 2) : (nextL t a).length = 1 ∧ kindV t.k ((nextL t a).getD 0 0 : Nat) = 3 := by
  have hth : thereB t.k a = true := kind_there (hk.imp id Or.inl)
  obtain ⟨m, hm, h1, h2⟩ := there_nat hth
  have hmem : m ∈ allL t := by
    unfold allL
    exact those_mem.2 ⟨h1, h2, by rw [← hm]; exact hth⟩
  rcases h with ⟨_, h⟩ | ⟨_, _, h⟩ | ⟨_, _, h, _⟩ | ⟨_, _, x, c, _, _, h⟩
  · cases h
  · cases h
  · rw [h] at hmem; cases hmem
  · have h' := h.symm
    simp only [Bool.and_eq_true, Bool.not_eq_true'] at h'
    obtain ⟨i, hi⟩ := List.getElem?_of_mem hmem
    have hil := (List.getElem?_eq_some_iff.1 hi).1
    have hh : hangB t a = true := by
      cases hg : hangB t a with
      | true => rfl
      | false =>
        have := any_yes (n := (allL t).length) (k := fun i => ((allL t).getD i 0 : Nat)) (q := fun n => !hangB t n) hil (by
          show (!hangB t (((allL t).getD i 0 : Nat) : Int)) = true
          rw [List.getD_eq_getElem?_getD, hi]
          show (!hangB t ((m : Nat) : Int)) = true
          rw [← hm, hg]; rfl)
        rw [this] at h'
        cases h'.2
    unfold hangB at hh
    have hk3 : ¬ kindV t.k a = 3 := by omega
    simp only [Bool.or_eq_true, Bool.and_eq_true, decide_eq_true_eq] at hh
    exact hh.resolve_left hk3
theorem thoseN_lt (p : Nat → Bool) : ∀ j, ∀ n ∈ thoseN p j, n ≤ j := by
  intro j n hn
  unfold thoseN at hn
  simp only [List.mem_filter, List.mem_map, List.mem_range] at hn
  omega
theorem those_nodup (p : Nat → Bool) : ∀ j, (thoseN p j).Nodup
  | 0 => by rw [those_zero]; exact List.nodup_nil
  | j + 1 => by
    rw [those_succ]
    split
    · refine List.nodup_append.2 ⟨those_nodup p j, by simp, fun a ha b hb => ?_⟩
      simp at hb
      have := thoseN_lt p j a ha
      omega
    · exact those_nodup p j
/-- A cart's homes are homes, two at most, and not the same. -/
theorem homes_are (t : Tv) (cart : Int) : (homesL t cart).length ≤ 2 ∧ (∀ n ∈ homesL t cart, kindV t.k (n : Nat) = 1) ∧ ∀ (x y : Nat), (homesL t cart)[0]? = some x → (homesL t cart)[1]? = some y → x ≠ y := by
  unfold homesL
  obtain ⟨l, hl⟩ : ∃ l, l = thoseL fun i => nodeB t 1 (i : Nat) := ⟨_, rfl⟩
  have hmem : ∀ n ∈ l, kindV t.k (n : Nat) = 1 := by
    intro n hn
    rw [hl] at hn
    have := (those_mem.1 hn).2.2
    unfold nodeB at this
    simp only [Bool.and_eq_true, decide_eq_true_eq] at this
    exact this.2
  have hnd : l.Nodup := by rw [hl]; exact those_nodup _ 12
  rw [← hl]
  clear hl
  unfold homesOf
  split
  · exact ⟨by simp, fun n h => (by cases h), fun x y h => (by cases h)⟩
  · split
    · exact ⟨by simp, fun n h => (by cases h), fun x y h => (by cases h)⟩
    · split
      · rename_i h1
        exact ⟨by omega, hmem, fun x y _ h => by have := (List.getElem?_eq_some_iff.1 h).1; omega⟩
      · rename_i h0 hc h1
        obtain ⟨i, hi⟩ : ∃ i, i = cart.toNat % l.length := ⟨_, rfl⟩
        rw [← hi]
        have hil : i < l.length := by rw [hi]; exact Nat.mod_lt _ (by omega)
        obtain ⟨j, hj⟩ : ∃ j, j = (i + 1) % l.length := ⟨_, rfl⟩
        rw [← hj]
        have hjl : j < l.length := by rw [hj]; exact Nat.mod_lt _ (by omega)
        have hij : i ≠ j := by
          intro e
          by_cases h : i + 1 < l.length
          · rw [Nat.mod_eq_of_lt h] at hj; omega
          · rw [show i + 1 = l.length by omega, Nat.mod_self] at hj; omega
        have hgi : l.getD i 0 = l[i] := by rw [List.getD_eq_getElem?_getD, List.getElem?_eq_getElem hil]; rfl
        have hgj : l.getD j 0 = l[j] := by rw [List.getD_eq_getElem?_getD, List.getElem?_eq_getElem hjl]; rfl
        rw [hgi, hgj]
        refine ⟨by simp, fun n hn => ?_, fun x y hx hy => ?_⟩
        · rcases List.mem_cons.1 hn with rfl | hn
          · exact hmem _ (List.getElem_mem _)
          · rw [List.mem_singleton.1 hn]; exact hmem _ (List.getElem_mem _)
        · simp at hx hy
          rw [← hx, ← hy]
          intro e
          rcases Nat.lt_or_gt_of_ne hij with h | h
          · exact List.pairwise_iff_getElem.1 hnd i j hil hjl h e
          · exact List.pairwise_iff_getElem.1 hnd j i hjl hil h e.symm
end Tr
end Go.Proofs.Ytohnhokddbeheaa

/-
Rows of marks: cut, put one behind the other.
-/
import Derived.Test.YtggcjcobonijfaaMk6
namespace Go.Proofs.Ytggcjcobonijfaa
open Go.RowKit

theorem mks_take {w : World} {A : Option Addr} {l : List Mk} (h : Mks w A l) (q : Nat) : Mks w A (l.take q) := by
  rcases h with rfl | ⟨b, o, e, h1, h2⟩
  · left; simp
  · refine Or.inr ⟨b, o, e, h1, fun i hi j v hv => ?_⟩
    rw [List.getElem_take] at hv
    exact h2 i (by simp at hi; omega) j v hv
theorem mks_drop {w : World} {b o c q : Nat} {l : List Mk} (h : Mks w (some ⟨b, o, none⟩) l) (hc : l.length ≤ c) (_hq : q ≤ l.length) : Mks w (if c = q then some ⟨b, o, none⟩ else some ⟨b, o + q * 3, none⟩) (l.drop q) := by
  rcases h with rfl | ⟨b', o', e, h1, h2⟩
  · left; simp
  · simp only [Option.some.injEq, Addr.mk.injEq] at e
    obtain ⟨rfl, rfl, _⟩ := e
    by_cases hcq : c = q
    · left; rw [List.drop_eq_nil_iff]; omega
    · rw [if_neg hcq]
      refine Or.inr ⟨b, o + q * 3, rfl, h1, fun i hi j v hv => ?_⟩
      rw [List.getElem_drop] at hv
      have := h2 (q + i) (by simp at hi; omega) j v hv
      rw [← this]
      congr 2
      simp [Nat.add_mul, Nat.add_assoc]
theorem mks_get {w : World} {b o t : Nat} {l : List Mk} (h : Mks w (some ⟨b, o, none⟩) l) (ht : t < l.length) : w.rangeAt b (o + t * 3) l[t].cells := by
  rcases h with rfl | ⟨b', o', e, h1, h2⟩
  · simp at ht
  · simp only [Option.some.injEq, Addr.mk.injEq] at e
    obtain ⟨rfl, rfl, _⟩ := e
    exact h2 t ht
theorem flat_at : ∀ (l : List Mk) (j : Nat) (u : Value), (l.flatMap Mk.cells)[j]? = some u → ∃ i r, ∃ hi : i < l.length, j = i * 3 + r ∧ (l[i].cells)[r]? = some u
  | [], j, u, h => by simp at h
  | m :: l, j, u, h => by
    rw [List.flatMap_cons] at h
    by_cases hj : j < 3
    · rw [List.getElem?_append_left (by rw [mk_len]; omega)] at h
      exact ⟨0, j, by simp, by omega, h⟩
    · rw [List.getElem?_append_right (by rw [mk_len]; omega), mk_len] at h
      obtain ⟨i, r, hi, e, h'⟩ := flat_at l (j - 3) u h
      exact ⟨i + 1, r, by simpa using hi, by omega, by simpa using h'⟩
theorem mks_src {w : World} {A : Option Addr} {l : List Mk} (h : Mks w A l) (hs : ∀ a, A = some a → a.spot = none) : Src w A l.length (l.flatMap Mk.cells) := by
  rcases h with rfl | ⟨b, o, e, h1, h2⟩
  · cases A with
    | none => exact Or.inr ⟨rfl, rfl, rfl⟩
    | some a => exact Or.inl ⟨a, rfl, fun j u hj => by simp at hj⟩
  · refine Or.inl ⟨_, e, fun j u hj => ?_⟩
    obtain ⟨i, r, hi, rfl, h'⟩ := flat_at l j u hj
    have := h2 i hi r u h'
    have e2 : (⟨b, o, none⟩ : Addr).add (i * 3 + r) = ⟨b, o + i * 3 + r, none⟩ := by unfold Addr.add; split <;> simp_all <;> omega
    rw [e2]
    exact this
theorem flat_one (l : List Mk) : ∀ u ∈ l.flatMap Mk.cells, u.oneCell' = true := by
  intro u hu
  obtain ⟨m, _, hu⟩ := List.mem_flatMap.1 hu
  unfold Mk.cells at hu
  simp at hu
  rcases hu with rfl | rfl | rfl <;> rfl
theorem mks_blk {w : World} {g : Nat} {l : List Mk} (h : Blk w g 29 (l.flatMap Mk.cells).toArray) : Mks w (some ⟨g, 0, none⟩) l := by
  refine Or.inr ⟨g, 0, rfl, h.lt, fun i hi j v hv => ?_⟩
  rw [h.cell, List.getElem?_toArray]
  have := flat_get l i j v hi hv
  rw [← this]
  congr 1
  omega

section
variable {P : Program}
/-- An append of marks that one row of marks is, to a row that the call made. -/
theorem step_append_mks {ops : Array Oper} {o : Oper} {a : Act} {w : World} {K : Act → World → Prop} {Q : Exit → Act → World → Prop} {E : Prop} (hw : Region.wanted o (yielded ops a.tmps) = true) (s x : Operand)
    (ho : o.op = .call { callee := .builtin .append, args := #[s, x], argTypes := #[35, 35] })
    (B : Nat) (v : Value) (n : Nat) (xs : List Mk) (hs : a.eval s = v) (hown : OwnM w B v n xs)
    (A : Option Addr) (m c : Nat) (l : List Mk) (hx : a.eval x = .slice A m c) (hl : l.length = m) (hm : Mks w A l) (hs2 : ∀ a, A = some a → a.spot = none) (hnm : n + m ≤ 100000) (hB : B ≤ w.heap.size)
    (h : ∀ v' w', OwnM w' B v' (n + m) (xs ++ l) → w.grownBy w' v.ownBlock → K (a.put o.dst v') w') : if Region.wanted o (yielded ops a.tmps) = true then Oper.wp Try.prog o a w K Q else E := by
  rw [if_pos hw]
  obtain ⟨i0, hi, hz0, hz1, hz2⟩ := info_parts Try.minfo29
  refine wp_append_src w s x 35 ho B 29 i0 (.agg #[.int .i64 0, .bool false, .float .f64 0]) Try.underlying35 hi hz0 (by rw [hz1]; rfl) (by rw [hz1]; decide) v n (xs.flatMap Mk.cells) hs (by rw [hz1]; exact hown) A m c (l.flatMap Mk.cells) hx (by rw [hz1, flat_len, hl]) (by rw [← hl]; exact mks_src hm hs2) (flat_one _) (by unfold maxLen; omega) (by rw [hz2]; omega) hB ?_
  intro v' w' h1 h2 _
  refine h v' w' ?_ h2
  unfold OwnM
  rw [List.flatMap_append]
  rw [hz1] at h1
  exact h1
end
end Go.Proofs.Ytggcjcobonijfaa

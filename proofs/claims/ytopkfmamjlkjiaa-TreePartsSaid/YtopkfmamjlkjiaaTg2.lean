/-
tree: of a tree that may be each edge counts (mathematics).
-/
import Derived.Test.YtopkfmamjlkjiaaTg
import Derived.Test.YtopkfmamjlkjiaaTp
namespace Go.Proofs.Ytopkfmamjlkjiaa
open Go.RowKit
set_option linter.unusedSimpArgs false
set_option linter.unusedVariables false
namespace Tr
/-- As many nodes hang together as there are edges, and one more. -/
theorem conn_count {p : Nat → Nat → Bool} (E : List (Nat × Nat)) (hE : ∀ a b, p a b = true → ∃ e ∈ E, (e.1 = a ∧ e.2 = b) ∨ (e.1 = b ∧ e.2 = a)) (V : List Nat) (hV : V.Nodup) (s : Nat) (hc : ∀ n ∈ V, Rch p s n) : V.length ≤ E.length + 1 := by
  have all : ∀ a b, Rch p a b → mg E a = mg E b := by
    intro a b h
    induction h with
    | base => rfl
    | @step a b _ _ _ k ih =>
      refine ih.trans ?_
      obtain ⟨e, he, ⟨h3, h4⟩ | ⟨h3, h4⟩⟩ := hE a b k
      · rw [← h3, ← h4]; exact mg_eq he
      · rw [← h3, ← h4]; exact (mg_eq he).symm
  obtain ⟨V', h1, h2, h3, h4⟩ := mg_count hV E
  have hone : V'.length ≤ 1 := by
    match V', h1, h2, h4 with
    | [], _, _, _ => simp
    | [_], _, _, _ => simp
    | a :: b :: _, h1, h2, h4 =>
      have := h4 a (by simp) b (by simp) (((all _ _ (hc a (h2 a (by simp)))).symm).trans (all _ _ (hc b (h2 b (by simp)))))
      rw [this] at h1
      simp at h1
  omega
theorem right_count {t : Tv} (h : RightP t true) : t.es.length = (allL t).length - 1 := by
  rcases h with ⟨_, h⟩ | ⟨_, _, h⟩ | ⟨_, h, _⟩ | ⟨_, h, _⟩
  · cases h
  · cases h
  · exact h
  · exact h
theorem right_edges {t : Tv} (h : RightP t true) : ∀ e ∈ t.es, validB t.k e = true := by
  intro e0 he0
  cases hv : validB t.k e0 with
  | true => rfl
  | false =>
    exfalso
    obtain ⟨s, hs⟩ := right_all h
    have hcnt := right_count h
    obtain ⟨E1, E2, hsp⟩ := List.append_of_mem he0
    have hlen : t.es.length = E1.length + E2.length + 1 := by rw [hsp]; simp; omega
    have := conn_count (p := joinN t) ((E1 ++ E2).map fun e => (e.1.toNat, e.2.toNat)) (fun a b hab => by
      have hr := jn_there (t := t) hab
      have h1 := there_in hr.1
      have h2 := there_in hr.2
      have hj := hab
      unfold joinN jnB foundF at hj
      simp only [Bool.and_eq_true, List.any_eq_true, Int.toNat_natCast] at hj
      obtain ⟨_, e, he, hve, hh⟩ := hj
      have hhit := hit_eq hve (by omega) (by omega) hh
      refine ⟨(e.1.toNat, e.2.toNat), List.mem_map.2 ⟨e, ?_, rfl⟩, hhit.2⟩
      rw [hsp] at he
      rcases List.mem_append.1 he with he | he
      · exact List.mem_append_left _ he
      · rcases List.mem_cons.1 he with rfl | he
        · rw [hv] at hve; cases hve
        · exact List.mem_append_right _ he) (allL t) (all_nodup t) s hs
    rw [List.length_map, List.length_append] at this
    omega
theorem right_wk {t : Tv} (h : RightP t true) : Wk t := by
  refine ⟨fun i hi => ?_, fun x hx => ?_, ?_⟩
  · have h1 : anyB 12 t.k noKindB = false := by
      rcases h with ⟨h1, h⟩ | ⟨h1, _⟩ | ⟨h1, _⟩ | ⟨h1, _⟩
      · cases h
      · exact h1
      · exact h1
      · exact h1
    cases hk : noKindB (t.k i) with
    | true => rw [any_yes hi hk] at h1; cases h1
    | false =>
      unfold noKindB at hk
      simp at hk
      omega
  · have := right_edges h x hx
    unfold validB at this
    simp only [Bool.and_eq_true] at this
    have h1 := there_in this.1.2
    have h2 := there_in this.2
    omega
  · have h1 := right_count h
    have h2 : (allL t).length ≤ 12 := by unfold allL thoseL; exact those_le _ 12
    omega
end Tr
end Go.Proofs.Ytopkfmamjlkjiaa

/-
interest: what follows of a label's way (mathematics).
-/
import Derived.Test.YtopkfmamjlkjiaaTh4
namespace Go.Proofs.Ytopkfmamjlkjiaa
open Go.RowKit
set_option linter.unusedSimpArgs false
set_option linter.unusedVariables false
namespace Tr
section
variable {t : Tv} {cart : Int} {s n h : Nat} {O O' : List Nat}
theorem home_there (hh : h ∈ homesL t cart) : thereB t.k (h : Nat) = true := kind_there (Or.inl ((homes_are t cart).2.1 h hh))
theorem BE.mem (hb : BE (joinN t) (twP t cart) s O) (hn : n ∈ O) : n ≠ s ∧ thereB t.k (n : Nat) = true := by
  refine ⟨fun e => (List.nodup_cons.1 hb.nd).1 (e ▸ hn), ?_⟩
  obtain ⟨f, x, _, ht⟩ := hb.so n hn
  exact (jn_there (t := t) ht.1).2
theorem BE.home (hr : RightP t true) (hb : BE (joinN t) (twP t cart) s O) (hs : thereB t.k (s : Nat) = true) (hh : h ∈ homesL t cart) : h ∈ s :: O := by
  obtain ⟨f, hf⟩ := hop_all (right_conn hr hs (home_there hh))
  exact be_home (right_tp hr) hb (d := h) (fun f x n h1 h2 h3 => ⟨h1, h2, h, hh, h3⟩) hf (.inl rfl)
theorem BE.none (hb : BE (joinN t) (twP t cart) s O) (h0 : homesL t cart = []) : O = [] := by
  cases O with
  | nil => rfl
  | cons n O =>
    obtain ⟨f, x, _, _, _, h, hh, _⟩ := hb.so n List.mem_cons_self
    rw [h0] at hh; cases hh
theorem BE.own (hb : BE (joinN t) (twP t cart) s O) (h0 : homesL t cart = [s]) : O = [] := by
  cases O with
  | nil => rfl
  | cons n O =>
    obtain ⟨f, x, _, ⟨_, _, h, hh, hbey⟩, hx⟩ := hb.ord 0 n rfl
    rw [h0] at hh
    simp at hh hx
    subst hx
    subst hh
    exact absurd rfl (hbey.ne2 (join_gr t))
theorem BE.onward (hr : RightP t true) (hb : BE (joinN t) (twP t cart) s O) (hn : n ∈ O) : n ∈ homesL t cart ∨ ∃ m, joinN t n m = true ∧ ¬ Bey (joinN t) n m s ∧ ∃ h ∈ homesL t cart, Bey (joinN t) n m h := by
  have g := right_tp hr
  obtain ⟨f, x, hx, h1, h2, h, hh, hbey⟩ := hb.so n hn
  rcases bey_down g hbey with rfl | ⟨m, hm, hb2⟩
  · exact .inl hh
  · refine .inr ⟨m, hb2.1, fun hms => ?_, h, hh, hb2⟩
    rcases hop_bey g (.step hx h1 h2) with ⟨_, e⟩ | h3
    · exact absurd e (hb.mem hn).1
    · exact hm (g.two hms h3)
theorem two_ways (hr : RightP t true) {a b : Nat} (hab : homesL t cart = [a, b] ∨ homesL t cart = [b, a]) (ha : BE (joinN t) (twP t cart) a O) (hb : BE (joinN t) (twP t cart) b O') (hn : n ∈ O) (hnb : n ≠ b) : n ∈ O' ∧ n ≠ a := by
  have g := right_tp hr
  obtain ⟨f, x, hx, h1, h2, h, hh, hbey⟩ := ha.so n hn
  have hna := (ha.mem hn).1
  have hhab : h = a ∨ h = b := by
    rcases hab with e | e <;> (rw [e] at hh; simp at hh; omega)
  have hain : a ∈ homesL t cart := by rcases hab with e | e <;> simp [e]
  have hbin : b ∈ homesL t cart := by rcases hab with e | e <;> simp [e]
  have hxa : Bey (joinN t) n x a := by
    rcases hop_bey g (.step hx h1 h2) with ⟨_, e⟩ | h3
    · exact absurd e hna
    · exact h3
  have hxb : Bey (joinN t) x n b := by
    rcases hhab with rfl | rfl
    · exact absurd hxa (fun h => g.back hbey h)
    · exact hbey
  obtain ⟨m, hm, hmb⟩ := (bey_down g hxb).resolve_left (fun e => hnb e.symm)
  refine ⟨?_, hna⟩
  obtain ⟨f', hf'⟩ := hop_all (right_conn hr (home_there hbin) (ha.mem hn).2)
  have hfm : f' = m := by
    rcases hop_bey g hf' with ⟨_, e⟩ | h3
    · exact absurd e hnb
    · exact g.two h3 hmb
  have := be_home g hb (d := a) (fun f x n h1 h2 h3 => ⟨h1, h2, a, hain, h3⟩) hf' (.inr ⟨x, fun e => hm (by rw [e, hfm]), hxa⟩)
  exact (List.mem_cons.1 this).resolve_left hnb
theorem two_len (hr : RightP t true) {a b : Nat} (hab : homesL t cart = [a, b] ∨ homesL t cart = [b, a]) (hne : a ≠ b) (ha : BE (joinN t) (twP t cart) a O) (hb : BE (joinN t) (twP t cart) b O') : O.length ≤ O'.length := by
  have hain : a ∈ homesL t cart := by rcases hab with e | e <;> simp [e]
  have hbin : b ∈ homesL t cart := by rcases hab with e | e <;> simp [e]
  have h1 : a ∈ O' := (List.mem_cons.1 (hb.home hr (home_there hbin) hain)).resolve_left hne
  have := nodup_len (l := O) (m := b :: O'.erase a) (List.nodup_cons.1 ha.nd).2 fun n hn => by
    by_cases e : n = b
    · rw [e]; exact List.mem_cons_self
    · have h := two_ways hr hab ha hb hn e
      exact List.mem_cons_of_mem _ ((List.mem_erase_of_ne h.2).2 h.1)
  rw [List.length_cons, List.length_erase_of_mem h1] at this
  have := List.length_pos_of_mem h1
  omega
end
end Tr
end Go.Proofs.Ytopkfmamjlkjiaa

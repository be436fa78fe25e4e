/-
cuts: CutsOne's mathematics: two homes that tell each other their stances have one winner of each round.
-/
import Derived.Test.YtbnapbjmffajfaaCu30
namespace Go.Proofs.Ytbnapbjmffajfaa
open Go.RowKit
set_option linter.unusedSimpArgs false
set_option linter.unusedVariables false
namespace Co
open Cb
section
variable {o p : Int}
theorem win_a (x : St) : winA o ⟨true, x⟩ = if x.h then ⟨o, x.t, x.f⟩ else Ct.zero := rfl
theorem won_eq (ho : o ≠ 0) (hp : p ≠ 0) (x y : St) : won o p ⟨true, x⟩ ⟨true, y⟩ = if (winB o p ⟨true, x⟩ ⟨true, y⟩).o = 0 then none else some (winB o p ⟨true, x⟩ ⟨true, y⟩) := by
  unfold won
  rw [if_neg (by simp), if_neg (by simp)]
theorem won_wait (ho : o ≠ 0) (b : Sd) : won o p Sd.zero b = none := by
  unfold won
  rw [if_pos (by simp [ho, Sd.zero])]
theorem won_noone (hp : p ≠ 0) (a : Sd) : won o p a Sd.zero = none := by
  unfold won
  split
  · rfl
  · rw [if_pos (by simp [hp, Sd.zero])]
theorem win_b (x y : St) : winB o p ⟨true, x⟩ ⟨true, y⟩ = if y.h then (if x.h then (if beatsB ⟨p, y.t, y.f⟩ ⟨o, x.t, x.f⟩ || decide (o = 0) then ⟨p, y.t, y.f⟩ else ⟨o, x.t, x.f⟩) else ⟨p, y.t, y.f⟩) else (if x.h then ⟨o, x.t, x.f⟩ else Ct.zero) := by
  unfold winB
  rw [win_a]
  cases hy : y.h with
  | false => simp [hy]
  | true =>
    cases hx : x.h with
    | false => simp [hy, Ct.zero]
    | true => simp [hy, Bool.or_comm]
theorem beats_one {a b : Ct} (h : a.o ≠ b.o) : beatsB a b = !beatsB b a := by
  have key : orK (fun i => if i = 0 then cmpI (a.t : Nat) (b.t : Nat) else cmpI a.o b.o) 2 0 < 0 ↔ ¬ orK (fun i => if i = 0 then cmpI (b.t : Nat) (a.t : Nat) else cmpI b.o a.o) 2 0 < 0 := by
    simp only [orK, cmpI]
    repeat' split
    all_goals omega
  unfold beatsB
  rw [decide_eq_decide.2 key, decide_not]
theorem won_symm (ho : o ≠ 0) (hp : p ≠ 0) (hne : o ≠ p) {x y : St} (h : x.h = true ∨ y.h = true) : won o p ⟨true, x⟩ ⟨true, y⟩ = won p o ⟨true, y⟩ ⟨true, x⟩ ∧ ∃ c, won o p ⟨true, x⟩ ⟨true, y⟩ = some c := by
  have hb := beats_one (a := ⟨p, y.t, y.f⟩) (b := ⟨o, x.t, x.f⟩) (fun e => hne e.symm)
  rw [won_eq ho hp, won_eq hp ho, win_b, win_b]
  cases hy : y.h with
  | false =>
    cases hx : x.h with
    | false => rw [hx, hy] at h; simp at h
    | true => simp [ho]
  | true =>
    cases hx : x.h with
    | false => simp [hp]
    | true =>
      simp only [if_true]
      rw [hb]
      cases hbb : beatsB ⟨o, x.t, x.f⟩ ⟨p, y.t, y.f⟩ with
      | false => simp [ho, hp]
      | true => simp [ho, hp]
/-- What is on its way of what a home said, from its k-th word on. -/
def msgs (k : Nat) (S : List St) : List (Nat × St) := (List.range (S.length - k)).map fun i => (k + i + 1, S.getD (k + i) St.zero)
theorem msgs_len (k : Nat) (S : List St) : (msgs k S).length = S.length - k := by unfold msgs; rw [List.length_map, List.length_range]
theorem msgs_snoc {k : Nat} {S : List St} (h : k ≤ S.length) (x : St) : msgs k (S ++ [x]) = msgs k S ++ [(S.length + 1, x)] := by
  unfold msgs
  rw [List.length_append, List.length_singleton, show S.length + 1 - k = (S.length - k) + 1 by omega, List.range_succ, List.map_append]
  congr 1
  · apply List.map_congr_left
    intro i hi
    have hi := List.mem_range.1 hi
    rw [List.getD_eq_getElem?_getD, List.getD_eq_getElem?_getD, List.getElem?_append_left (by omega)]
  · rw [List.map_singleton, show k + (S.length - k) = S.length by omega, List.getD_eq_getElem?_getD, List.getElem?_append_right (Nat.le_refl _), Nat.sub_self]
    rfl
theorem msgs_cons {k : Nat} {S : List St} {x : St} (h : S[k]? = some x) : msgs k S = (k + 1, x) :: msgs (k + 1) S := by
  have hk := (List.getElem?_eq_some_iff.1 h).1
  unfold msgs
  rw [show S.length - k = (S.length - (k + 1)) + 1 by omega, List.range_succ_eq_map, List.map_cons, List.map_map]
  congr 1
  · show (k + 1, S.getD k St.zero) = (k + 1, x)
    rw [List.getD_eq_getElem?_getD, h]; rfl
  · apply List.map_congr_left
    intro i hi
    show (k + (i + 1) + 1, S.getD (k + (i + 1)) St.zero) = (k + 1 + i + 1, S.getD (k + 1 + i) St.zero)
    rw [show k + (i + 1) = k + 1 + i by omega]
structure Good (x : St) : Prop where
  r : rightS x = true
  f : Flat x.f
  t : x.t < 18446744073709551616
/-- One of two homes: what it decided, what it said and heard. -/
structure Half (o p : Int) (a : TS) (ta : List (Nat × St)) (S1 S2 : List St) : Prop where
  cuts : ∀ (i : Nat) (c : Ct), a.cs[i]? = some c → ∃ x y, S1[i]? = some x ∧ S2[i]? = some y ∧ won o p ⟨true, x⟩ ⟨true, y⟩ = some c
  st : (a.a = Sd.zero ∧ a.b = Sd.zero ∧ S1.length = a.cs.length ∧ ta = msgs a.cs.length S2) ∨
    (∃ x, a.a = ⟨true, x⟩ ∧ x.h = true ∧ S1[a.cs.length]? = some x ∧ S1.length = a.cs.length + 1 ∧ a.b = Sd.zero ∧ ta = msgs a.cs.length S2) ∨
    (∃ y, a.b = ⟨true, y⟩ ∧ y.h = false ∧ S2[a.cs.length]? = some y ∧ a.a = Sd.zero ∧ S1.length = a.cs.length ∧ ta = msgs (a.cs.length + 1) S2)
/-- Two homes, and what is on its way to each. -/
structure TwoS (o p : Int) (a b : TS) (ta tb : List (Nat × St)) (S1 S2 : List St) : Prop where
  ha : Half o p a ta S1 S2
  hb : Half p o b tb S2 S1
  g1 : ∀ x ∈ S1, Good x
  g2 : ∀ x ∈ S2, Good x
  one : ∀ (i : Nat) (x y : St), S1[i]? = some x → S2[i]? = some y → x.h = true ∨ y.h = true
  l1 : S1.length ≤ 20
  l2 : S2.length ≤ 20
def Two (o p : Int) (a b : TS) (ta tb : List (Nat × St)) : Prop := ∃ S1 S2, TwoS o p a b ta tb S1 S2
variable {a b : TS} {ta tb : List (Nat × St)} {S1 S2 : List St}
theorem TwoS.symm (h : TwoS o p a b ta tb S1 S2) : TwoS p o b a tb ta S2 S1 := ⟨h.hb, h.ha, h.g2, h.g1, fun i x y hx hy => (h.one i y x hy hx).symm, h.l2, h.l1⟩
theorem Two.symm (h : Two o p a b ta tb) : Two p o b a tb ta := by obtain ⟨S1, S2, h⟩ := h; exact ⟨S2, S1, h.symm⟩
theorem Half.len (h : Half o p a ta S1 S2) : a.cs.length ≤ S1.length ∧ S1.length ≤ a.cs.length + 1 ∧ a.cs.length ≤ S2.length := by
  have h2 : a.cs.length ≤ S2.length := by
    cases hl : a.cs.length with
    | zero => omega
    | succ n =>
      obtain ⟨x, y, -, hy, -⟩ := h.cuts n a.cs[n] (List.getElem?_eq_getElem (by omega))
      have := (List.getElem?_eq_some_iff.1 hy).1
      omega
  rcases h.st with ⟨-, -, h1, -⟩ | ⟨x, -, -, -, h1, -⟩ | ⟨y, -, -, -, -, h1, -⟩
  · exact ⟨by omega, by omega, h2⟩
  · exact ⟨by omega, by omega, h2⟩
  · exact ⟨by omega, by omega, h2⟩
theorem two_new : Two o p ⟨[], Sd.zero, Sd.zero⟩ ⟨[], Sd.zero, Sd.zero⟩ [] [] :=
  ⟨[], [], ⟨(fun i c h => by simp at h), Or.inl ⟨rfl, rfl, rfl, rfl⟩⟩, ⟨(fun i c h => by simp at h), Or.inl ⟨rfl, rfl, rfl, rfl⟩⟩, (fun x h => by cases h), (fun x h => by cases h), (fun i x y h => by simp at h), by decide, by decide⟩
/-- What a home hears does not hang on what it says further. -/
theorem Half.more (h : Half p o b tb S2 S1) (x : St) : Half p o b (tb ++ [(S1.length + 1, x)]) S2 (S1 ++ [x]) := by
  have hl := h.len
  refine ⟨fun i c hc => ?_, ?_⟩
  · obtain ⟨u, v, h1, h2, h3⟩ := h.cuts i c hc
    exact ⟨u, v, h1, by rw [List.getElem?_append_left (List.getElem?_eq_some_iff.1 h2).1]; exact h2, h3⟩
  · rcases h.st with ⟨h1, h2, h3, h4⟩ | ⟨u, h1, h2, h3, h4, h5, h6⟩ | ⟨u, h1, h2, h3, h4, h5, h6⟩
    · exact Or.inl ⟨h1, h2, h3, by rw [msgs_snoc (by omega), h4]⟩
    · exact Or.inr (Or.inl ⟨u, h1, h2, h3, h4, h5, by rw [msgs_snoc (by omega), h6]⟩)
    · have hk := (List.getElem?_eq_some_iff.1 h3).1
      exact Or.inr (Or.inr ⟨u, h1, h2, by rw [List.getElem?_append_left hk]; exact h3, h4, h5, by rw [msgs_snoc (by omega), h6]⟩)
theorem cuts_more {cs : List Ct} (h : ∀ (i : Nat) (c : Ct), cs[i]? = some c → ∃ x y, S1[i]? = some x ∧ S2[i]? = some y ∧ won o p ⟨true, x⟩ ⟨true, y⟩ = some c) (x : St) : ∀ (i : Nat) (c : Ct), cs[i]? = some c → ∃ u y, (S1 ++ [x])[i]? = some u ∧ S2[i]? = some y ∧ won o p ⟨true, u⟩ ⟨true, y⟩ = some c := by
  intro i c hc
  obtain ⟨u, v, h1, h2, h3⟩ := h i c hc
  exact ⟨u, v, by rw [List.getElem?_append_left (List.getElem?_eq_some_iff.1 h1).1]; exact h1, h2, h3⟩
theorem cuts_add {cs : List Ct} (h : ∀ (i : Nat) (c : Ct), cs[i]? = some c → ∃ x y, S1[i]? = some x ∧ S2[i]? = some y ∧ won o p ⟨true, x⟩ ⟨true, y⟩ = some c) {x y : St} {d : Ct} (hx : S1[cs.length]? = some x) (hy : S2[cs.length]? = some y) (hd : won o p ⟨true, x⟩ ⟨true, y⟩ = some d) : ∀ (i : Nat) (c : Ct), (cs ++ [d])[i]? = some c → ∃ x y, S1[i]? = some x ∧ S2[i]? = some y ∧ won o p ⟨true, x⟩ ⟨true, y⟩ = some c := by
  intro i c hc
  have hi := (List.getElem?_eq_some_iff.1 hc).1
  rw [List.length_append, List.length_singleton] at hi
  by_cases h2 : i < cs.length
  · rw [List.getElem?_append_left h2] at hc
    exact h i c hc
  · have e : i = cs.length := by omega
    subst e
    rw [List.getElem?_append_right (Nat.le_refl _), Nat.sub_self] at hc
    injection hc with hc
    subst hc
    exact ⟨x, y, hx, hy, hd⟩
theorem mem_snoc {x : St} {S : List St} {Q : St → Prop} (h : ∀ y ∈ S, Q y) (hx : Q x) : ∀ y ∈ S ++ [x], Q y := by
  intro y hy
  rcases List.mem_append.1 hy with h1 | h1
  · exact h y h1
  · rw [List.mem_singleton.1 h1]; exact hx
def TS.propG (o p : Int) (s : TS) (t : Nat) (f : Nat → Nat) : TS := if propE s.cs s.a ⟨true, t, f⟩ = 0 then .of (decT o p s.cs ⟨true, true, t, f⟩ s.b) else s
def TS.hearG (o p : Int) (s : TS) (r : Int) (x : St) : TS := if hearE p s.cs s.b r x = 0 then .of (decT o p s.cs (if promP s.a x then ⟨true, St.zero⟩ else s.a) ⟨true, x⟩) else s
/-- A home proposes. -/
theorem two_prop (ho : o ≠ 0) (hp : p ≠ 0) (hne : o ≠ p) (h : Two o p a b ta tb) {t : Nat} {f : Nat → Nat} (hf : Flat f) (ht : t < 18446744073709551616) (h0 : propE a.cs a.a ⟨true, t, f⟩ = 0) :
    Two o p (TS.propG o p a t f) b ta (tb ++ [(a.cs.length + 1, ⟨true, t, f⟩)]) := by
  obtain ⟨S1, S2, H⟩ := h
  obtain ⟨h1, h2, h3⟩ := prop_is h0
  have hr := prop_right h0
  have hgood : Good ⟨true, t, f⟩ := ⟨hr, hf, ht⟩
  have hlen : S1.length = a.cs.length := by
    rcases H.ha.st with ⟨-, -, q, -⟩ | ⟨x, q, -⟩ | ⟨y, -, -, -, -, q, -⟩
    · exact q
    · rw [q] at h1; cases h1
    · exact q
  have hmine : (S1 ++ [⟨true, t, f⟩])[a.cs.length]? = some (⟨true, t, f⟩ : St) := by rw [← hlen, List.getElem?_append_right (Nat.le_refl _), Nat.sub_self]; rfl
  refine ⟨S1 ++ [⟨true, t, f⟩], S2, ?_, by rw [← hlen]; exact H.hb.more _, mem_snoc H.g1 hgood, H.g2, ?_, by rw [List.length_append, List.length_singleton]; omega, H.l2⟩
  · unfold TS.propG
    rw [if_pos h0]
    have hone : ∀ y, S2[a.cs.length]? = some y → ∃ c, won o p ⟨true, true, t, f⟩ ⟨true, y⟩ = some c := fun y _ => (won_symm ho hp hne (Or.inl rfl)).2
    rcases H.ha.st with ⟨q1, q2, -, q4⟩ | ⟨x, q, -⟩ | ⟨y, q1, q2, q3, q4, -, q6⟩
    · rw [q2, dec_no (won_noone hp _)]
      exact ⟨cuts_more H.ha.cuts _, Or.inr (Or.inl ⟨⟨true, t, f⟩, rfl, rfl, hmine, by show (S1 ++ [_]).length = _; rw [List.length_append, hlen]; rfl, rfl, q4⟩)⟩
    · rw [q] at h1; cases h1
    · obtain ⟨c, hc⟩ := hone y q3
      rw [q1, dec_yes hc]
      refine ⟨cuts_add (cuts_more H.ha.cuts _) hmine q3 hc, Or.inl ⟨rfl, rfl, ?_, ?_⟩⟩
      · show (S1 ++ [_]).length = (a.cs ++ [c]).length; rw [List.length_append, List.length_append, hlen]; rfl
      · show ta = msgs (a.cs ++ [c]).length S2; rw [List.length_append, List.length_singleton]; exact q6
  · intro i x y hx hy
    by_cases hi : i < S1.length
    · rw [List.getElem?_append_left hi] at hx
      exact H.one i x y hx hy
    · have := (List.getElem?_eq_some_iff.1 hx).1
      rw [List.length_append, List.length_singleton] at this
      rw [List.getElem?_append_right (by omega), show i - S1.length = 0 by omega] at hx
      injection hx with hx
      subst hx
      exact Or.inl rfl
/-- A home hears the first thing that is on its way to it. -/
theorem two_hear (ho : o ≠ 0) (hp : p ≠ 0) (hne : o ≠ p) {r : Nat} {x : St} (h : Two o p a b ((r, x) :: ta) tb) :
    hearE p a.cs a.b (r : Nat) x = 0 ∧ Good x ∧ Two o p (TS.hearG o p a (r : Nat) x) b ta (if promP a.a x then tb ++ [(a.cs.length + 1, St.zero)] else tb) := by
  obtain ⟨S1, S2, H⟩ := h
  have hla := H.ha.len
  have hlb := H.hb.len
  have hgz : Good St.zero := ⟨right_zero, ⟨fun i _ => rfl, fun i => by show 0 < 4294967296; decide⟩, by decide⟩
  have hcons : ∀ k, (r, x) :: ta = msgs k S2 → r = k + 1 ∧ S2[k]? = some x ∧ ta = msgs (k + 1) S2 := by
    intro k hk
    have hlt : k < S2.length := by
      have := congrArg List.length hk
      rw [msgs_len, List.length_cons] at this
      omega
    have hx := List.getElem?_eq_getElem hlt
    rw [msgs_cons hx] at hk
    injection hk with h1 h2
    injection h1 with h1 h3
    exact ⟨h1, by rw [hx, h3], h2⟩
  have hE : ∀ k, r = k + 1 → k = a.cs.length → a.b.is = false → Good x → k < 20 → hearE p a.cs a.b (r : Nat) x = 0 := by
    intro k h1 h2 h3 h4 h5
    subst h1 h2
    unfold hearE
    rw [if_neg (by simpa using hp), h4.r, if_neg (by decide), h3, if_neg (by simp), if_neg (by simp), if_neg (by simp; omega)]
  rcases H.ha.st with ⟨q1, q2, q3, q4⟩ | ⟨z, q1, q2, q3, q4, q5, q6⟩ | ⟨y, q1, q2, q3, q4, q5, q6⟩
  · obtain ⟨k1, k2, k3⟩ := hcons _ q4
    have hg := H.g2 x (List.mem_of_getElem? k2)
    have hk20 : a.cs.length < 20 := by have := (List.getElem?_eq_some_iff.1 k2).1; have := H.l2; omega
    have h0 := hE _ k1 rfl (by rw [q2]; rfl) hg hk20
    refine ⟨h0, hg, ?_⟩
    unfold TS.hearG
    rw [if_pos h0, q1]
    cases hx : x.h with
    | true =>
      have hpr : promP Sd.zero x = true := by unfold promP; rw [hx]; rfl
      rw [hpr, if_pos rfl, if_pos rfl]
      obtain ⟨c, hc⟩ := (won_symm ho hp hne (x := St.zero) (y := x) (Or.inr hx)).2
      have hmine : (S1 ++ [St.zero])[a.cs.length]? = some St.zero := by rw [← q3, List.getElem?_append_right (Nat.le_refl _), Nat.sub_self]; rfl
      rw [dec_yes hc]
      refine ⟨S1 ++ [St.zero], S2, ⟨cuts_add (cuts_more H.ha.cuts _) hmine k2 hc, Or.inl ⟨rfl, rfl, ?_, ?_⟩⟩, by rw [← q3]; exact H.hb.more _, mem_snoc H.g1 hgz, H.g2, ?_, by rw [List.length_append, List.length_singleton]; omega, H.l2⟩
      · show (S1 ++ [_]).length = (a.cs ++ [c]).length; rw [List.length_append, List.length_append, q3]; rfl
      · show ta = msgs (a.cs ++ [c]).length S2; rw [List.length_append, List.length_singleton]; exact k3
      · intro i u v hu hv
        by_cases hi : i < S1.length
        · rw [List.getElem?_append_left hi] at hu
          exact H.one i u v hu hv
        · have := (List.getElem?_eq_some_iff.1 hu).1
          rw [List.length_append, List.length_singleton] at this
          have e : i = a.cs.length := by omega
          subst e
          rw [k2] at hv
          injection hv with hv
          subst hv
          exact Or.inr hx
    | false =>
      have hpr : promP Sd.zero x = false := by unfold promP; rw [hx]; rfl
      rw [hpr, if_neg (by decide), if_neg (by decide), dec_no (won_wait ho _)]
      exact ⟨S1, S2, ⟨H.ha.cuts, Or.inr (Or.inr ⟨x, rfl, hx, k2, rfl, q3, k3⟩)⟩, H.hb, H.g1, H.g2, H.one, H.l1, H.l2⟩
  · obtain ⟨k1, k2, k3⟩ := hcons _ q6
    have hg := H.g2 x (List.mem_of_getElem? k2)
    have hk20 : a.cs.length < 20 := by have := (List.getElem?_eq_some_iff.1 k2).1; have := H.l2; omega
    have h0 := hE _ k1 rfl (by rw [q5]; rfl) hg hk20
    refine ⟨h0, hg, ?_⟩
    unfold TS.hearG
    rw [if_pos h0, q1]
    have hpr : promP ⟨true, z⟩ x = false := by unfold promP; simp
    rw [hpr, if_neg (by decide), if_neg (by decide)]
    obtain ⟨c, hc⟩ := (won_symm ho hp hne (x := z) (y := x) (Or.inl q2)).2
    rw [dec_yes hc]
    refine ⟨S1, S2, ⟨cuts_add H.ha.cuts q3 k2 hc, Or.inl ⟨rfl, rfl, ?_, ?_⟩⟩, H.hb, H.g1, H.g2, H.one, H.l1, H.l2⟩
    · show S1.length = (a.cs ++ [c]).length; rw [List.length_append, q4]; rfl
    · show ta = msgs (a.cs ++ [c]).length S2; rw [List.length_append, List.length_singleton]; exact k3
  · obtain ⟨k1, k2, k3⟩ := hcons _ q6
    have := (List.getElem?_eq_some_iff.1 k2).1
    omega
/-- As far as both decided they decided alike. -/
theorem two_agree (ho : o ≠ 0) (hp : p ≠ 0) (hne : o ≠ p) (h : Two o p a b ta tb) {k : Nat} {c d : Ct} (hc : a.cs[k]? = some c) (hd : b.cs[k]? = some d) : c = d := by
  obtain ⟨S1, S2, H⟩ := h
  obtain ⟨x, y, h1, h2, h3⟩ := H.ha.cuts k c hc
  obtain ⟨y', x', h4, h5, h6⟩ := H.hb.cuts k d hd
  rw [h2] at h4
  rw [h1] at h5
  injection h4 with h4
  injection h5 with h5
  subst h4 h5
  rw [← (won_symm ho hp hne (H.one k x y h1 h2)).1, h3] at h6
  injection h6
/-- When nothing is on its way any more both decided as much. -/
theorem two_end (h : Two o p a b [] []) : a.cs.length = b.cs.length := by
  obtain ⟨S1, S2, H⟩ := h
  have hla := H.ha.len
  have hlb := H.hb.len
  have hm : ∀ k S, [] = msgs k S → S.length ≤ k := fun k S e => by have := congrArg List.length e; rw [msgs_len] at this; simp at this; omega
  rcases H.ha.st with ⟨-, -, q3, q4⟩ | ⟨z, -, -, q3, q4, -, q6⟩ | ⟨y, -, -, q3, -, q5, q6⟩ <;> rcases H.hb.st with ⟨-, -, r3, r4⟩ | ⟨w, -, -, r3, r4, -, r6⟩ | ⟨v, -, -, r3, -, r5, r6⟩
  all_goals (first | (have e1 := hm _ _ q4) | (have e1 := hm _ _ q6))
  all_goals (first | (have e2 := hm _ _ r4) | (have e2 := hm _ _ r6))
  all_goals (try (have e3 := (List.getElem?_eq_some_iff.1 q3).1))
  all_goals (try (have e4 := (List.getElem?_eq_some_iff.1 r3).1))
  all_goals omega
/-- How much is on its way. -/
def wt (l : List (Nat × St)) : Nat := (l.map fun m => if m.2.h then 2 else 1).sum
theorem wt_nil : wt [] = 0 := rfl
theorem wt_cons (m : Nat × St) (l : List (Nat × St)) : wt (m :: l) = (if m.2.h then 2 else 1) + wt l := by unfold wt; simp
theorem wt_app (l l' : List (Nat × St)) : wt (l ++ l') = wt l + wt l' := by unfold wt; simp
theorem wt_zero {l : List (Nat × St)} (h : wt l = 0) : l = [] := by
  cases l with
  | nil => rfl
  | cons m l => rw [wt_cons] at h; split at h <;> omega
theorem wt_le : ∀ l : List (Nat × St), wt l ≤ 2 * l.length
  | [] => by simp [wt]
  | m :: l => by have := wt_le l; rw [wt_cons, List.length_cons]; split <;> omega
theorem two_few (h : Two o p a b ta tb) : wt ta + wt tb ≤ 8 := by
  obtain ⟨S1, S2, H⟩ := h
  have hla := H.ha.len
  have hlb := H.hb.len
  have h1 := wt_le ta
  have h2 := wt_le tb
  have e1 : ta.length ≤ S2.length - a.cs.length := by
    rcases H.ha.st with ⟨-, -, -, q⟩ | ⟨z, -, -, -, -, -, q⟩ | ⟨y, -, -, -, -, -, q⟩ <;> (rw [q, msgs_len]; omega)
  have e2 : tb.length ≤ S1.length - b.cs.length := by
    rcases H.hb.st with ⟨-, -, -, q⟩ | ⟨z, -, -, -, -, -, q⟩ | ⟨y, -, -, -, -, -, q⟩ <;> (rw [q, msgs_len]; omega)
  omega
theorem two_less {x : St} {r : Nat} {a : TS} : wt ta + wt (if promP a.a x then tb ++ [(a.cs.length + 1, St.zero)] else tb) < wt ((r, x) :: ta) + wt tb := by
  rw [wt_cons]
  cases hx : x.h with
  | false =>
    have : promP a.a x = false := by unfold promP; rw [hx]; rfl
    simp only [this, Bool.false_eq_true, if_false]
    omega
  | true =>
    simp only [if_true]
    split
    · rw [wt_app]
      have : wt [(a.cs.length + 1, St.zero)] = 1 := rfl
      omega
    · omega
end
end Co
end Go.Proofs.Ytbnapbjmffajfaa

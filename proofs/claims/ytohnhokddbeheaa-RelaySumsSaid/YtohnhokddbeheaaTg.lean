/-
tree: what hangs together with one edge less than nodes is a tree (mathematics); a label's way in it.
-/
import Derived.Test.YtohnhokddbeheaaTr15
namespace Go.Proofs.Ytohnhokddbeheaa
open Go.RowKit
set_option linter.unusedSimpArgs false
set_option linter.unusedVariables false
namespace Tr
/-- Who joins whom. -/
structure Gr (p : Nat → Nat → Bool) : Prop where
  symm : ∀ a b, p a b = p b a
  rng : ∀ a b, p a b = true → 1 ≤ a ∧ a ≤ 12
  irr : ∀ a, p a a = false
/-- Without coming to a node. -/
def aw (p : Nat → Nat → Bool) (x : Nat) (a b : Nat) : Bool := decide (b ≠ x) && p a b
/-- Without an edge. -/
def nu (p : Nat → Nat → Bool) (x y : Nat) (a b : Nat) : Bool := p a b && !(decide (a = x) && decide (b = y)) && !(decide (a = y) && decide (b = x))
/-- n is beyond y, as x sees it. -/
def Bey (p : Nat → Nat → Bool) (x y n : Nat) : Prop := p x y = true ∧ Rch (aw p x) y n
section
variable {p q : Nat → Nat → Bool} {s a b c x y z n m f : Nat}
theorem rch_trans (h1 : Rch p a b) (h2 : Rch p b c) : Rch p a c := by
  induction h2 with
  | base => exact h1
  | step _ i j k ih => exact .step ih i j k
theorem rch_mono (h : ∀ a b, p a b = true → q a b = true) (h1 : Rch p a b) : Rch q a b := by
  induction h1 with
  | base => exact .base
  | step _ i j k ih => exact .step ih i j (h _ _ k)
theorem Gr.rng2 (g : Gr p) (h : p a b = true) : 1 ≤ b ∧ b ≤ 12 := g.rng b a (by rw [← g.symm]; exact h)
theorem rch_symm (g : Gr p) (h : Rch p a b) : Rch p b a := by
  induction h with
  | base => exact .base
  | step _ i j k ih => exact rch_trans (.step .base (g.rng _ _ k).1 (g.rng _ _ k).2 (by rw [g.symm]; exact k)) ih
theorem nu_true : nu p x y a b = true ↔ p a b = true ∧ ¬ (a = x ∧ b = y) ∧ ¬ (a = y ∧ b = x) := by
  unfold nu
  simp only [Bool.and_eq_true, Bool.not_eq_true', Bool.and_eq_false_iff, decide_eq_false_iff_not]
  constructor
  · rintro ⟨⟨h1, h2⟩, h3⟩; exact ⟨h1, fun h => by rcases h2 with h2 | h2 <;> simp_all, fun h => by rcases h3 with h3 | h3 <;> simp_all⟩
  · rintro ⟨h1, h2, h3⟩
    refine ⟨⟨h1, ?_⟩, ?_⟩
    · by_cases h : a = x
      · exact .inr fun h' => h2 ⟨h, h'⟩
      · exact .inl h
    · by_cases h : a = y
      · exact .inr fun h' => h3 ⟨h, h'⟩
      · exact .inl h
theorem nu_gr (g : Gr p) : Gr (nu p x y) := by
  refine ⟨fun a b => ?_, fun a b h => g.rng a b (nu_true.1 h).1, fun a => ?_⟩
  · rw [Bool.eq_iff_iff, nu_true, nu_true, g.symm a b]
    constructor
    · rintro ⟨h1, h2, h3⟩; exact ⟨h1, fun h => h3 ⟨h.2, h.1⟩, fun h => h2 ⟨h.2, h.1⟩⟩
    · rintro ⟨h1, h2, h3⟩; exact ⟨h1, fun h => h3 ⟨h.2, h.1⟩, fun h => h2 ⟨h.2, h.1⟩⟩
  · cases h : nu p x y a a with
    | false => rfl
    | true => have := (nu_true.1 h).1; rw [g.irr] at this; cases this
theorem aw_true : aw p x a b = true ↔ b ≠ x ∧ p a b = true := by unfold aw; simp
theorem aw_ne (h : Rch (aw p x) y n) (hy : y ≠ x) : n ≠ x := by
  cases h with
  | base => exact hy
  | step _ _ _ k => exact (aw_true.1 k).1
theorem aw_nu (h : Rch (aw p x) y n) (hy : y ≠ x) : Rch (nu p x m) y n := by
  induction h with
  | base => exact .base
  | step h1 i j k ih => exact .step ih i j (nu_true.2 ⟨(aw_true.1 k).2, fun h => aw_ne h1 hy h.1, fun h => (aw_true.1 k).1 h.2⟩)
theorem nu_swap (h : Rch (nu p x y) a b) : Rch (nu p y x) a b := rch_mono (fun a b h => by
  have := nu_true.1 h
  exact nu_true.2 ⟨this.1, this.2.2, this.2.1⟩) h
theorem aw_symm (g : Gr p) (h : Rch (aw p x) y n) (hy : y ≠ x) : Rch (aw p x) n y := by
  induction h with
  | base => exact .base
  | step h1 i j k ih => exact rch_trans (.step .base (g.rng _ _ (aw_true.1 k).2).1 (g.rng _ _ (aw_true.1 k).2).2 (aw_true.2 ⟨aw_ne h1 hy, by rw [g.symm]; exact (aw_true.1 k).2⟩)) ih
theorem Bey.ne (g : Gr p) (h : Bey p x y n) : y ≠ x := by
  intro e
  have := h.1
  rw [e, g.irr] at this
  cases this
theorem Bey.ne2 (g : Gr p) (h : Bey p x y n) : n ≠ x := aw_ne h.2 (h.ne g)
theorem Bey.rng (g : Gr p) (h : Bey p x y n) : 1 ≤ n ∧ n ≤ 12 := by
  have h0 := g.rng2 h.1
  cases h.2 with
  | base => exact h0
  | step _ i j _ => exact ⟨i, j⟩
theorem rch_closed {c : Nat → Prop} (hs : c s) (hc : ∀ a b, c a → p a b = true → c b) (h : Rch p s n) : c n := by
  induction h with
  | base => exact hs
  | step _ _ _ k ih => exact hc _ _ ih k
/-- A tree: no edge is for nothing. -/
structure Tp (p : Nat → Nat → Bool) : Prop extends Gr p where
  cut : ∀ x y, p x y = true → ¬ Rch (nu p x y) x y
theorem Tp.two (g : Tp p) (h1 : Bey p x y n) (h2 : Bey p x z n) : y = z := by
  by_cases e : y = z
  · exact e
  · exfalso
    refine g.cut x z h2.1 (rch_trans (.step .base (g.toGr.rng2 h1.1).1 (g.toGr.rng2 h1.1).2 (nu_true.2 ⟨h1.1, fun h => e h.2, fun h => h1.ne g.toGr h.2⟩)) (rch_trans (aw_nu h1.2 (h1.ne g.toGr)) (aw_nu (aw_symm g.toGr h2.2 (h2.ne g.toGr)) (h2.ne2 g.toGr))))
theorem Tp.back (g : Tp p) (h1 : Bey p x y n) (h2 : Bey p y x n) : False := by
  refine g.cut x y h1.1 (rch_trans (nu_swap (aw_nu h2.2 (h2.ne g.toGr))) (rch_symm (nu_gr g.toGr) (aw_nu h1.2 (h1.ne g.toGr))))
/-- Whoever is reached is the node itself, or beyond a neighbour. -/
theorem bey_split (h : Rch p x n) : n = x ∨ ∃ y, Bey p x y n := by
  induction h with
  | base => exact .inl rfl
  | @step a b h1 i j k ih =>
    by_cases hb : b = x
    · exact .inl hb
    · rcases ih with rfl | ⟨y, hy⟩
      · exact .inr ⟨b, k, .base⟩
      · exact .inr ⟨y, hy.1, .step hy.2 i j (aw_true.2 ⟨hb, k⟩)⟩
theorem bey_start (h : p x y = true) : Bey p x y y := ⟨h, .base⟩
/-- A way that comes not to n may be gone without n. -/
theorem aw_switch (h : Rch (aw p x) f s) (hn : ∀ m, Rch (aw p x) f m → m ≠ n) : Rch (aw p n) f s := by
  induction h with
  | base => exact .base
  | step h1 i j k ih => exact .step ih i j (aw_true.2 ⟨hn _ (.step h1 i j k), (aw_true.1 k).2⟩)
/-- A way that does not turn back. -/
inductive Hop (p : Nat → Nat → Bool) (s : Nat) : Nat → Nat → Prop
  | root : Hop p s 0 s
  | step {f x n : Nat} : Hop p s f x → p x n = true → n ≠ f → Hop p s x n
/-- From where one came the start is seen. -/
theorem hop_bey (g : Tp p) (h : Hop p s f z) : (f = 0 ∧ z = s) ∨ Bey p z f s := by
  induction h with
  | root => exact .inl ⟨rfl, rfl⟩
  | @step f x n h k e ih =>
    refine .inr ?_
    have hs : p n x = true := by rw [g.symm]; exact k
    rcases ih with ⟨_, rfl⟩ | hb
    · exact ⟨hs, .base⟩
    · have hfx : p f x = true := by rw [g.symm]; exact hb.1
      have hf := g.toGr.rng2 hb.1
      refine ⟨hs, rch_trans (.step .base hf.1 hf.2 (aw_true.2 ⟨fun h => e h.symm, hb.1⟩)) (aw_switch hb.2 fun m hm hmn => ?_)⟩
      subst hmn
      exact e (g.two (bey_start k) ⟨hb.1, hm⟩)
theorem hop_uniq (g : Tp p) (h : Hop p s f z) (h' : Hop p s m z) : f = m := by
  rcases hop_bey g h with ⟨rfl, rfl⟩ | hb
  · rcases hop_bey g h' with ⟨rfl, _⟩ | hb'
    · rfl
    · exact absurd rfl (hb'.ne2 g.toGr)
  · rcases hop_bey g h' with ⟨_, rfl⟩ | hb'
    · exact absurd rfl (hb.ne2 g.toGr)
    · exact g.two hb hb'
theorem hop_all (h : Rch p s z) : ∃ f, Hop p s f z := by
  induction h with
  | base => exact ⟨0, .root⟩
  | @step y z h1 i j k ih =>
    obtain ⟨f, hf⟩ := ih
    by_cases e : z = f
    · subst e
      cases hf with
      | root => omega
      | step h _ _ => exact ⟨_, h⟩
    · exact ⟨y, .step hf k e⟩
/-- What is beyond a neighbour's neighbour is beyond the neighbour. -/
theorem bey_up (g : Tp p) (hx : p x n = true) (h : Bey p n m z) (e : m ≠ x) : Bey p x n z := by
  have hm := g.toGr.rng2 h.1
  refine ⟨hx, rch_trans (.step .base hm.1 hm.2 (aw_true.2 ⟨e, h.1⟩)) (aw_switch h.2 fun k hk hkx => ?_)⟩
  subst hkx
  exact e (g.two ⟨h.1, hk⟩ (bey_start (by rw [g.symm]; exact hx)))
theorem bey_down (g : Tp p) (h : Bey p x n z) : z = n ∨ ∃ m, m ≠ x ∧ Bey p n m z := by
  have hz : Rch p n z := rch_mono (fun a b h => (aw_true.1 h).2) h.2
  rcases bey_split hz with e | ⟨m, hm⟩
  · exact .inl e
  · refine .inr ⟨m, fun e => ?_, hm⟩
    subst e
    exact g.back h hm
/-- What a label's way is, as far as it was gone: O came, Q waits. -/
def BI (p : Nat → Nat → Bool) (tw : Nat → Nat → Nat → Prop) (s : Nat) (O : List Nat) (Q : List (Nat × Nat)) : Prop :=
  ∃ P : List (Nat × Nat), (P ++ Q).map (·.2) = s :: O ∧ (s :: O).Nodup ∧ (∀ h ∈ P ++ Q, Hop p s h.1 h.2) ∧ (∀ h ∈ P, ∀ n, tw h.1 h.2 n → n ∈ O) ∧ (∀ n ∈ O, ∃ h ∈ P, tw h.1 h.2 n) ∧ ∀ i n, O[i]? = some n → ∃ f x, Hop p s f x ∧ tw f x n ∧ x ∈ s :: O.take i
/-- To whom a label came. -/
structure BE (p : Nat → Nat → Bool) (tw : Nat → Nat → Nat → Prop) (s : Nat) (O : List Nat) : Prop where
  nd : (s :: O).Nodup
  so : ∀ n ∈ O, ∃ f x, Hop p s f x ∧ tw f x n
  cl : ∀ f z, Hop p s f z → z ∈ s :: O → ∀ n, tw f z n → n ∈ O
  ord : ∀ i n, O[i]? = some n → ∃ f x, Hop p s f x ∧ tw f x n ∧ x ∈ s :: O.take i
theorem bi_start {tw : Nat → Nat → Nat → Prop} : BI p tw s [] [(0, s)] :=
  ⟨[], rfl, by simp, fun h hh => by simp at hh; subst hh; exact .root, fun h hh => absurd hh (by simp), fun n hn => absurd hn (by simp), fun i n hn => by simp at hn⟩
theorem map_inj_nd {P : List (Nat × Nat)} (h : (P.map (·.2)).Nodup) {a b : Nat × Nat} (ha : a ∈ P) (hb : b ∈ P) (e : a.2 = b.2) : a = b := by
  induction P with
  | nil => cases ha
  | cons c P ih =>
    rw [List.map_cons, List.nodup_cons] at h
    rcases List.mem_cons.1 ha with ea | ha <;> rcases List.mem_cons.1 hb with eb | hb
    · rw [ea, eb]
    · exact absurd (List.mem_map.2 ⟨b, hb, by rw [← e, ea]⟩) h.1
    · exact absurd (List.mem_map.2 ⟨a, ha, by rw [e, eb]⟩) h.1
    · exact ih h.2 ha hb
theorem bi_next (g : Tp p) {tw : Nat → Nat → Nat → Prop} (htw : ∀ f x n, tw f x n → p x n = true ∧ n ≠ f) {O R : List Nat} {T : List (Nat × Nat)} (hR : ∀ n, n ∈ R ↔ tw f x n) (hnd : R.Nodup)
    (h : BI p tw s O ((f, x) :: T)) : BI p tw s (O ++ R) (T ++ R.map fun n => (x, n)) := by
  obtain ⟨P, h1, h2, h3, h4, h5, h6⟩ := h
  have hx := h3 (f, x) (by simp)
  have hfx : (f, x) ∉ P := by
    intro hin
    rw [← h1, List.map_append, List.map_cons, List.nodup_append] at h2
    exact h2.2.2 x (List.mem_map.2 ⟨_, hin, rfl⟩) x (by simp) rfl
  have hnew : ∀ n ∈ R, Hop p s x n := fun n hn => .step hx (htw f x n ((hR n).1 hn)).1 (htw f x n ((hR n).1 hn)).2
  refine ⟨P ++ [(f, x)], ?_, ?_, ?_, ?_, ?_, ?_⟩
  · rw [List.append_assoc, List.cons_append, List.nil_append, ← List.cons_append, ← List.append_assoc, List.map_append, h1, List.map_map]
    simp [Function.comp_def]
  · rw [← List.cons_append, List.nodup_append]
    refine ⟨h2, hnd, fun a ha b hb e => ?_⟩
    subst e
    rcases List.mem_cons.1 ha with rfl | ha
    · have := hop_uniq g (hnew a hb) .root
      have := g.rng _ _ (htw f x a ((hR a).1 hb)).1
      omega
    · obtain ⟨h, hh, hn⟩ := h5 a ha
      have e2 := hop_uniq g (hnew a hb) (.step (h3 h (List.mem_append_left _ hh)) (htw _ _ _ hn).1 (htw _ _ _ hn).2)
      have := map_inj_nd (by rw [h1]; exact h2) (List.mem_append_left _ hh) (show (f, x) ∈ P ++ (f, x) :: T by simp) e2.symm
      rw [this] at hh
      exact hfx hh
  · intro h hh
    rw [List.append_assoc, List.cons_append, List.nil_append, ← List.cons_append, ← List.append_assoc] at hh
    rcases List.mem_append.1 hh with hh | hh
    · exact h3 h hh
    · obtain ⟨n, hn, rfl⟩ := List.mem_map.1 hh
      exact hnew n hn
  · intro h hh n hn
    rcases List.mem_append.1 hh with hh | hh
    · exact List.mem_append_left _ (h4 h hh n hn)
    · rw [List.mem_singleton.1 hh] at hn
      exact List.mem_append_right _ ((hR n).2 hn)
  · intro n hn
    rcases List.mem_append.1 hn with hn | hn
    · obtain ⟨h, hh, hn⟩ := h5 n hn
      exact ⟨h, List.mem_append_left _ hh, hn⟩
    · exact ⟨(f, x), by simp, (hR n).1 hn⟩
  · intro i n hn
    by_cases hi : i < O.length
    · rw [List.getElem?_append_left hi] at hn
      obtain ⟨f', x', k1, k2, k3⟩ := h6 i n hn
      exact ⟨f', x', k1, k2, by rw [List.take_append_of_le_length (by omega)]; exact k3⟩
    · have hin : n ∈ R := by
        rw [List.getElem?_append_right (by omega)] at hn
        exact List.mem_of_getElem? hn
      refine ⟨f, x, hx, (hR n).1 hin, ?_⟩
      have hxo : x ∈ s :: O := by rw [← h1]; exact List.mem_map.2 ⟨(f, x), by simp, rfl⟩
      rcases List.mem_cons.1 hxo with e | e
      · rw [e]; exact List.mem_cons_self
      · refine List.mem_cons_of_mem _ ?_
        rw [List.take_append, List.take_of_length_le (by omega)]
        exact List.mem_append_left _ e
theorem bi_end (g : Tp p) {tw : Nat → Nat → Nat → Prop} {O : List Nat} (h : BI p tw s O []) : BE p tw s O := by
  obtain ⟨P, h1, h2, h3, h4, h5, h6⟩ := h
  rw [List.append_nil] at h1 h3
  refine ⟨h2, fun n hn => ?_, fun f z hz hin n hn => ?_, h6⟩
  · obtain ⟨h, hh, hn⟩ := h5 n hn
    exact ⟨h.1, h.2, h3 h hh, hn⟩
  · rw [← h1] at hin
    obtain ⟨h, hh, rfl⟩ := List.mem_map.1 hin
    have := hop_uniq g hz (h3 h hh)
    subst this
    exact h4 h hh n hn
theorem bi_head {tw : Nat → Nat → Nat → Prop} {O : List Nat} {T : List (Nat × Nat)} (h : BI p tw s O ((f, x) :: T)) : Hop p s f x := by
  obtain ⟨P, h1, h2, h3, h4, h5, h6⟩ := h
  exact h3 (f, x) (by simp)
/-- A label comes to each home. -/
theorem be_home (g : Tp p) {tw : Nat → Nat → Nat → Prop} {O : List Nat} (h : BE p tw s O) {d : Nat} (htw : ∀ f x n, p x n = true → n ≠ f → Bey p x n d → tw f x n)
    (hz : Hop p s f z) (hd : d = z ∨ ∃ m, m ≠ f ∧ Bey p z m d) : z ∈ s :: O := by
  induction hz with
  | root => exact List.mem_cons_self
  | @step f x n hx k e ih =>
    have hb : Bey p x n d := by
      rcases hd with rfl | ⟨m, hm, hb⟩
      · exact bey_start k
      · exact bey_up g k hb hm
    exact List.mem_cons_of_mem _ (h.cl _ _ hx (ih (.inr ⟨n, e, hb⟩)) n (htw _ _ _ k e hb))
end
/-- Two nodes are one, as far as edges join them. -/
def mg : List (Nat × Nat) → Nat → Nat
  | [], n => n
  | e :: E, n => if mg E n = mg E e.1 then mg E e.2 else mg E n
theorem mg_eq : ∀ {E : List (Nat × Nat)} {e : Nat × Nat}, e ∈ E → mg E e.1 = mg E e.2
  | c :: E, e, h => by
    rcases List.mem_cons.1 h with rfl | h
    · simp [mg]
    · simp only [mg, mg_eq h]
theorem filter_one {q : Nat → Bool} : ∀ {l : List Nat}, l.Nodup → (∀ x ∈ l, ∀ y ∈ l, q x = true → q y = true → x = y) → l.length ≤ (l.filter fun n => !q n).length + 1
  | [], _, _ => by simp
  | x :: T, h, hq => by
    rw [List.nodup_cons] at h
    cases hx : q x with
    | true =>
      have : (T.filter fun n => !q n) = T := List.filter_eq_self.2 fun y hy => by
        cases hqy : q y with
        | false => rfl
        | true => exact absurd (hq x List.mem_cons_self y (List.mem_cons_of_mem _ hy) hx hqy ▸ hy) h.1
      rw [List.filter_cons, hx]
      simp [this]
    | false =>
      have := filter_one h.2 fun a ha b hb => hq a (List.mem_cons_of_mem _ ha) b (List.mem_cons_of_mem _ hb)
      rw [List.filter_cons, hx]
      simp
      simpa using this
theorem mg_count {V : List Nat} (hV : V.Nodup) : ∀ E : List (Nat × Nat), ∃ V' : List Nat, V'.Nodup ∧ (∀ x ∈ V', x ∈ V) ∧ V.length ≤ V'.length + E.length ∧ ∀ x ∈ V', ∀ y ∈ V', mg E x = mg E y → x = y
  | [] => ⟨V, hV, fun _ h => h, by simp, fun x _ y _ h => h⟩
  | e :: E => by
    obtain ⟨V', h1, h2, h3, h4⟩ := mg_count hV E
    refine ⟨V'.filter fun n => !decide (mg E n = mg E e.1), h1.sublist List.filter_sublist, fun x hx => h2 x (List.mem_filter.1 hx).1, ?_, fun x hx y hy h => ?_⟩
    · have := filter_one (q := fun n => decide (mg E n = mg E e.1)) h1 fun x hx y hy ex ey => h4 x hx y hy ((of_decide_eq_true ex).trans (of_decide_eq_true ey).symm)
      rw [List.length_cons]
      omega
    · have hx' := List.mem_filter.1 hx
      have hy' := List.mem_filter.1 hy
      simp only [Bool.not_eq_true', decide_eq_false_iff_not] at hx' hy'
      simp only [mg, if_neg hx'.2, if_neg hy'.2] at h
      exact h4 x hx'.1 y hy'.1 h
/-- What hangs together with one edge less than nodes is a tree. -/
theorem tp_of {p : Nat → Nat → Bool} (g : Gr p) (E : List (Nat × Nat)) (hE : ∀ a b, p a b = true → ∃ e ∈ E, (e.1 = a ∧ e.2 = b) ∨ (e.1 = b ∧ e.2 = a))
    (V : List Nat) (hV : V.Nodup) (hl : E.length < V.length) (s : Nat) (hc : ∀ n ∈ V, Rch p s n) : Tp p := by
  refine ⟨g, fun x y hxy hr => ?_⟩
  obtain ⟨e, he, hh⟩ := hE x y hxy
  obtain ⟨E1, E2, rfl⟩ := List.append_of_mem he
  obtain ⟨F, hF⟩ : ∃ F, F = mg (E1 ++ E2) := ⟨_, rfl⟩
  have key : ∀ a b, nu p x y a b = true → F a = F b := by
    intro a b hab
    have := nu_true.1 hab
    obtain ⟨e', he', hh'⟩ := hE a b this.1
    have hin : e' ∈ E1 ++ E2 := by
      rcases List.mem_append.1 he' with h | h
      · exact List.mem_append_left _ h
      · rcases List.mem_cons.1 h with rfl | h
        · exfalso
          rcases hh with ⟨h1, h2⟩ | ⟨h1, h2⟩ <;> rcases hh' with ⟨h3, h4⟩ | ⟨h3, h4⟩
          · exact this.2.1 ⟨by omega, by omega⟩
          · exact this.2.2 ⟨by omega, by omega⟩
          · exact this.2.2 ⟨by omega, by omega⟩
          · exact this.2.1 ⟨by omega, by omega⟩
        · exact List.mem_append_right _ h
    rw [hF]
    rcases hh' with ⟨h3, h4⟩ | ⟨h3, h4⟩
    · rw [← h3, ← h4]; exact mg_eq hin
    · rw [← h3, ← h4]; exact (mg_eq hin).symm
  have way : ∀ a b, Rch (nu p x y) a b → F a = F b := by
    intro a b h
    induction h with
    | base => rfl
    | step _ _ _ k ih => exact ih.trans (key _ _ k)
  have hxyF := way x y hr
  have all : ∀ a b, Rch p a b → F a = F b := by
    intro a b h
    induction h with
    | base => rfl
    | @step a b _ _ _ k ih =>
      refine ih.trans ?_
      by_cases h1 : a = x ∧ b = y
      · rw [h1.1, h1.2]; exact hxyF
      · by_cases h2 : a = y ∧ b = x
        · rw [h2.1, h2.2]; exact hxyF.symm
        · exact key a b (nu_true.2 ⟨k, h1, h2⟩)
  obtain ⟨V', h1, h2, h3, h4⟩ := mg_count hV (E1 ++ E2)
  rw [← hF] at h4
  have hone : V'.length ≤ 1 := by
    match V', h1, h2, h4 with
    | [], _, _, _ => simp
    | [_], _, _, _ => simp
    | a :: b :: _, h1, h2, h4 =>
      have := h4 a (by simp) b (by simp) (((all _ _ (hc a (h2 a (by simp)))).symm).trans (all _ _ (hc b (h2 b (by simp)))))
      rw [this] at h1
      simp at h1
  simp only [List.length_append, List.length_cons] at hl h3
  omega
theorem nodup_len : ∀ {l m : List Nat}, l.Nodup → (∀ n ∈ l, n ∈ m) → l.length ≤ m.length
  | [], _, _, _ => by simp
  | x :: T, m, h, hs => by
    rw [List.nodup_cons] at h
    have hx := hs x List.mem_cons_self
    have := nodup_len (m := m.erase x) h.2 fun n hn => (List.mem_erase_of_ne (fun e : n = x => h.1 (by rw [← e]; exact hn))).2 (hs n (List.mem_cons_of_mem _ hn))
    rw [List.length_erase_of_mem hx] at this
    have := List.length_pos_of_mem hx
    rw [List.length_cons]
    omega

theorem hit_eq {k : Nat → Int} {e : Int × Int} (hv : validB k e = true) {a b : Nat} (ha : a ≤ 12) (hb : b ≤ 12) (h : hitB e (a * 13 + b) = true) :
    e.1.toNat ≠ e.2.toNat ∧ ((e.1.toNat = a ∧ e.2.toNat = b) ∨ (e.1.toNat = b ∧ e.2.toNat = a)) := by
  unfold validB at hv
  simp only [Bool.and_eq_true, decide_eq_true_eq] at hv
  have h1 := there_in hv.1.2
  have h2 := there_in hv.2
  have h0 := hv.1.1
  unfold hitB at h
  simp only [Bool.or_eq_true, decide_eq_true_eq] at h
  omega
theorem join_edge {t : Tv} {a b : Nat} (h : joinN t a b = true) : a ≠ b ∧ ∃ e ∈ t.es.map (fun e => (e.1.toNat, e.2.toNat)), (e.1 = a ∧ e.2 = b) ∨ (e.1 = b ∧ e.2 = a) := by
  have hr := jn_there (t := t) h
  have h1 := there_in hr.1
  have h2 := there_in hr.2
  unfold joinN jnB foundF at h
  simp only [Bool.and_eq_true, List.any_eq_true, Int.toNat_natCast] at h
  obtain ⟨_, e, he, hv, hh⟩ := h
  have := hit_eq hv (by omega) (by omega) hh
  exact ⟨by omega, (e.1.toNat, e.2.toNat), List.mem_map.2 ⟨e, he, rfl⟩, this.2⟩
theorem join_gr (t : Tv) : Gr (joinN t) := by
  refine ⟨fun a b => jn_symm t a b, fun a b h => ?_, fun a => ?_⟩
  · have := there_in (jn_there (t := t) h).1
    omega
  · cases h : joinN t a a with
    | false => rfl
    | true => exact absurd rfl (join_edge h).1
theorem all_mem {t : Tv} {n : Nat} : n ∈ allL t ↔ thereB t.k (n : Nat) = true := by
  unfold allL
  rw [those_mem]
  constructor
  · exact fun h => h.2.2
  · intro h
    have := there_in h
    exact ⟨by omega, by omega, h⟩
theorem all_nodup (t : Tv) : (allL t).Nodup := by unfold allL thoseL; exact those_nodup _ 12
/-- Of a tree that may be all nodes hang together. -/
theorem right_all {t : Tv} (h : RightP t true) : ∃ s, ∀ n ∈ allL t, Rch (joinN t) s n := by
  rcases h with ⟨_, h⟩ | ⟨_, _, h⟩ | ⟨_, _, h, _⟩ | ⟨_, _, x, c, hx, hc, h⟩
  · cases h
  · cases h
  · exact ⟨0, fun n hn => by rw [h] at hn; cases hn⟩
  · refine ⟨x, fun n hn => ?_⟩
    have hlen : (thoseL c).length = (allL t).length := by
      have := h.symm
      simp only [Bool.and_eq_true, decide_eq_true_eq] at this
      exact this.1
    by_cases hin : n ∈ thoseL c
    · exact (hc n).1 (those_mem.1 hin).2.2
    · exfalso
      have := nodup_len (l := thoseL c) (m := (allL t).erase n) (by unfold thoseL; exact those_nodup _ 12) fun m hm => by
        have hm' := those_mem.1 hm
        refine (List.mem_erase_of_ne (fun e : m = n => hin (by rw [← e]; exact hm))).2 (all_mem.2 ?_)
        have hr := (hc m).1 hm'.2.2
        cases hr with
        | base => exact all_mem.1 (List.mem_of_getElem? hx)
        | step _ _ _ k => exact (jn_there (t := t) k).2
      rw [List.length_erase_of_mem hn] at this
      have := List.length_pos_of_mem hn
      omega
theorem right_tp {t : Tv} (h : RightP t true) : Tp (joinN t) := by
  obtain ⟨s, hs⟩ := right_all h
  by_cases h0 : allL t = []
  · refine ⟨join_gr t, fun x y hxy _ => ?_⟩
    have := all_mem.2 (jn_there (t := t) hxy).1
    rw [h0] at this
    cases this
  · refine tp_of (join_gr t) _ (fun a b hab => (join_edge hab).2) (allL t) (all_nodup t) ?_ s hs
    have hp := List.length_pos_iff.2 h0
    rw [List.length_map]
    rcases h with ⟨_, h⟩ | ⟨_, _, h⟩ | ⟨_, _, h, _⟩ | ⟨_, h, _⟩
    · cases h
    · cases h
    · exact absurd h h0
    · omega
theorem right_conn {t : Tv} (h : RightP t true) {a b : Nat} (ha : thereB t.k (a : Nat) = true) (hb : thereB t.k (b : Nat) = true) : Rch (joinN t) a b := by
  obtain ⟨s, hs⟩ := right_all h
  exact rch_trans (rch_symm (join_gr t) (hs a (all_mem.2 ha))) (hs b (all_mem.2 hb))
theorem away_aw (t : Tv) (x : Nat) : awayB t (x : Nat) = aw (joinN t) x := by
  funext a b
  unfold awayB aw joinN
  congr 1
  exact decide_eq_decide.2 (by omega)
end Tr
end Go.Proofs.Ytohnhokddbeheaa

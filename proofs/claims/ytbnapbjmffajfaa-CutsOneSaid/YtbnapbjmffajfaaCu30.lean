/-
cuts: CutsBack's mathematics: what a table may be; its bytes are read as it.
cuts: ops that came in; an op done.
cuts: an op done; two tables side by side.
-/
import Derived.Test.YtbnapbjmffajfaaCu26
namespace Go.Proofs.Ytbnapbjmffajfaa
open Go.RowKit
set_option linter.unusedSimpArgs false
set_option linter.unusedVariables false
namespace Cb
/-- What a table has. -/
structure TS where
  cs : List Ct
  a : Sd
  b : Sd
structure Flat (f : Nat → Nat) : Prop where
  over : ∀ i, 12 ≤ i → f i = 0
  u32 : ∀ i, f i < 4294967296
/-- A cut behind others. -/
structure CutOk (p : List Ct) (c : Ct) : Prop where
  f : Flat c.f
  t : c.t < 18446744073709551616
  len : p.length < 20
  who : (c.o = 1 ∧ propE p Sd.zero ⟨true, c.t, c.f⟩ = 0) ∨ (c.o = 2 ∧ rightS ⟨true, c.t, c.f⟩ = true)
def Cuts (l : List Ct) : Prop := ∀ (i : Nat) (c : Ct), l[i]? = some c → CutOk (l.take i) c
structure TS.Ok (s : TS) : Prop where
  cuts : Cuts s.cs
  st : (s.a = Sd.zero ∧ s.b = Sd.zero) ∨ (s.b = Sd.zero ∧ ∃ t f, s.a = ⟨true, true, t, f⟩ ∧ Flat f ∧ t < 18446744073709551616 ∧ propE s.cs Sd.zero ⟨true, t, f⟩ = 0) ∨ (s.a = Sd.zero ∧ s.b = ⟨true, St.zero⟩ ∧ s.cs.length < 20)
theorem Cuts.nil : Cuts [] := fun i c h => by simp at h
theorem Cuts.snoc {p : List Ct} {c : Ct} (h : Cuts p) (hc : CutOk p c) : Cuts (p ++ [c]) := by
  intro i x hx
  have hi := (List.getElem?_eq_some_iff.1 hx).1
  rw [List.length_append, List.length_singleton] at hi
  by_cases h2 : i < p.length
  · rw [List.getElem?_append_left h2] at hx
    rw [List.take_append_of_le_length (by omega)]
    exact h i x hx
  · have e : i = p.length := by omega
    subst e
    rw [List.getElem?_append_right (Nat.le_refl _), Nat.sub_self] at hx
    injection hx with hx
    subst hx
    rw [List.take_left']
    · exact hc
    · rfl
theorem Cuts.len {l : List Ct} (h : Cuts l) : l.length ≤ 20 := by
  cases hl : l.getLast? with
  | none => rw [List.getLast?_eq_none_iff.1 hl]; decide
  | some c =>
    rw [List.getLast?_eq_getElem?] at hl
    have := (h _ c hl).len
    rw [List.length_take] at this
    omega
def TS.of (d : List Ct × Sd × Sd) : TS := ⟨d.1, d.2.1, d.2.2⟩
def TS.prop (s : TS) (t : Nat) (f : Nat → Nat) : TS := if propE s.cs s.a ⟨true, t, f⟩ = 0 then .of (decT 1 2 s.cs ⟨true, true, t, f⟩ s.b) else s
def TS.hear (s : TS) (r : Int) (x : St) : TS := if hearE 2 s.cs s.b r x = 0 then .of (decT 1 2 s.cs (if promP s.a x then ⟨true, St.zero⟩ else s.a) ⟨true, x⟩) else s
theorem prop_is {cs : List Ct} {a : Sd} {x : St} (h : propE cs a x = 0) : a.is = false ∧ propE cs Sd.zero x = 0 ∧ cs.length < 20 := by
  have h1 : a.is = false := by
    unfold propE at h
    cases ha : a.is with
    | false => rfl
    | true => rw [ha] at h; split at h <;> cases h
  have h2 : propE cs Sd.zero x = 0 := by
    unfold propE at h ⊢
    rw [h1] at h
    exact h
  exact ⟨h1, h2, (prop_ok h2).1⟩
theorem prop_right {cs : List Ct} {a : Sd} {x : St} (h : propE cs a x = 0) : rightS x = true := by
  unfold propE at h
  cases hr : rightS x with
  | true => rfl
  | false => rw [hr] at h; cases h
theorem hear_is {cs : List Ct} {b : Sd} {r : Int} {x : St} (h : hearE 2 cs b r x = 0) : b.is = false ∧ rightS x = true ∧ cs.length < 20 := by
  unfold hearE at h
  rw [if_neg (by decide)] at h
  split at h
  · cases h
  · rename_i h1
    split at h
    · cases h
    · rename_i h2
      split at h
      · cases h
      · rename_i h3
        split at h
        · cases h
        · rename_i h4
          simp at h1 h2 h3 h4
          exact ⟨h2.2 (by omega), h1, by omega⟩
theorem won_own (t : Nat) (f : Nat → Nat) : won 1 2 ⟨true, true, t, f⟩ Sd.zero = none := rfl
theorem won_mine (t : Nat) (f : Nat → Nat) : won 1 2 ⟨true, true, t, f⟩ ⟨true, St.zero⟩ = some ⟨1, t, f⟩ := rfl
theorem won_his (t : Nat) (f : Nat → Nat) : won 1 2 ⟨true, St.zero⟩ ⟨true, true, t, f⟩ = some ⟨2, t, f⟩ := rfl
theorem won_wait (x : St) : won 1 2 Sd.zero ⟨true, x⟩ = none := rfl
theorem won_both (t : Nat) (f : Nat → Nat) (x : St) : won 1 2 ⟨true, true, t, f⟩ ⟨true, x⟩ = some ⟨1, t, f⟩ ∨ (x.h = true ∧ won 1 2 ⟨true, true, t, f⟩ ⟨true, x⟩ = some ⟨2, x.t, x.f⟩) := by
  have e : won 1 2 ⟨true, true, t, f⟩ ⟨true, x⟩ = if (winB 1 2 ⟨true, true, t, f⟩ ⟨true, x⟩).o = 0 then none else some (winB 1 2 ⟨true, true, t, f⟩ ⟨true, x⟩) := rfl
  rw [e]
  unfold winB
  by_cases hc : ((⟨true, x⟩ : Sd).s.h && (decide ((winA 1 ⟨true, true, t, f⟩).o = 0) || beatsB ⟨2, (⟨true, x⟩ : Sd).s.t, (⟨true, x⟩ : Sd).s.f⟩ (winA 1 ⟨true, true, t, f⟩))) = true
  · right
    rw [if_pos hc]
    have hx : x.h = true := by
      rw [Bool.and_eq_true] at hc
      exact hc.1
    exact ⟨hx, rfl⟩
  · left
    rw [if_neg hc]
    rfl
theorem st_ext {x : St} (h : x.h = true) : x = ⟨true, x.t, x.f⟩ := by obtain ⟨a, b, c⟩ := x; simp at h; subst h; rfl
theorem dec_yes {own other : Int} {cs : List Ct} {a b : Sd} {c : Ct} (h : won own other a b = some c) : decT own other cs a b = (cs ++ [c], Sd.zero, Sd.zero) := by unfold decT; rw [h]; rfl
theorem dec_no {own other : Int} {cs : List Ct} {a b : Sd} (h : won own other a b = none) : decT own other cs a b = (cs, a, b) := by unfold decT; rw [h]; simp
theorem ok_new : TS.Ok ⟨[], Sd.zero, Sd.zero⟩ := ⟨Cuts.nil, Or.inl ⟨rfl, rfl⟩⟩
theorem ok_prop {s : TS} (h : s.Ok) {t : Nat} {f : Nat → Nat} (hf : Flat f) (ht : t < 18446744073709551616) : (s.prop t f).Ok := by
  unfold TS.prop
  split
  · rename_i h0
    obtain ⟨h1, h2, h3⟩ := prop_is h0
    obtain ⟨cs, a, b⟩ := s
    obtain ⟨hc, hs⟩ := h
    rcases hs with ⟨ha, hb⟩ | ⟨hb, t', f', ha, -⟩ | ⟨ha, hb, -⟩
    · simp only at ha hb hc h1 h2 h3 ⊢
      subst ha hb
      rw [dec_no (won_own t f)]
      exact ⟨hc, Or.inr (Or.inl ⟨rfl, t, f, rfl, hf, ht, h2⟩)⟩
    · simp only at ha h1
      rw [ha] at h1
      cases h1
    · simp only at ha hb hc h1 h2 h3 ⊢
      subst ha hb
      rw [dec_yes (won_mine t f)]
      exact ⟨hc.snoc ⟨hf, ht, h3, Or.inl ⟨rfl, h2⟩⟩, Or.inl ⟨rfl, rfl⟩⟩
  · exact h
theorem zero_of {x : St} (hf : Flat x.f) (hr : rightS x = true) (hh : x.h = false) : x = St.zero := by
  obtain ⟨h, t, f⟩ := x
  simp only at hh hf
  subst hh
  unfold rightS at hr
  simp at hr
  obtain ⟨rfl, h2⟩ := hr
  rw [eqB_iff] at h2
  have : f = fun _ => 0 := by
    funext i
    by_cases hi : i < 12
    · exact h2 i hi
    · exact hf.over i (by omega)
  subst this
  rfl
theorem ok_hear {s : TS} (h : s.Ok) {r : Int} {x : St} (hf : Flat x.f) (ht : x.t < 18446744073709551616) : (s.hear r x).Ok := by
  unfold TS.hear
  split
  · rename_i h0
    obtain ⟨h1, h2, h3⟩ := hear_is h0
    obtain ⟨cs, a, b⟩ := s
    obtain ⟨hc, hs⟩ := h
    rcases hs with ⟨ha, hb⟩ | ⟨hb, t', f', ha, hf', ht', hp'⟩ | ⟨ha, hb, -⟩
    · simp only at ha hb hc h1 h3 ⊢
      subst ha hb
      cases hx : x.h with
      | true =>
        have hp : promP Sd.zero x = true := by unfold promP; rw [hx]; rfl
        rw [hp, if_pos rfl]
        obtain ⟨xh, xt, xf⟩ := x
        simp only at hx
        subst hx
        rw [dec_yes (won_his xt xf)]
        exact ⟨hc.snoc ⟨hf, ht, h3, Or.inr ⟨rfl, h2⟩⟩, Or.inl ⟨rfl, rfl⟩⟩
      | false =>
        have hp : promP Sd.zero x = false := by unfold promP; rw [hx]; rfl
        rw [hp, if_neg (by decide), dec_no (won_wait x)]
        exact ⟨hc, Or.inr (Or.inr ⟨rfl, by rw [zero_of hf h2 hx]; rfl, h3⟩)⟩
    · simp only at ha hb hc h1 h3 hp' ⊢
      subst ha hb
      have hp : promP ⟨true, true, t', f'⟩ x = false := by unfold promP; simp
      rw [hp, if_neg (by decide)]
      rcases won_both t' f' x with hw | ⟨hx, hw⟩
      · rw [dec_yes hw]
        exact ⟨hc.snoc ⟨hf', ht', h3, Or.inl ⟨rfl, hp'⟩⟩, Or.inl ⟨rfl, rfl⟩⟩
      · rw [dec_yes hw]
        exact ⟨hc.snoc ⟨hf, ht, h3, Or.inr ⟨rfl, by rw [← st_ext hx]; exact h2⟩⟩, Or.inl ⟨rfl, rfl⟩⟩
    · simp only at hb h1
      rw [hb] at h1
      cases h1
  · exact h
/-- Bytes that are read, as the table that is made of them. -/
structure BackQ {β : Type} (P : List Nat → Except Int (List Nat × β)) (E : List Nat) (y : β) : Prop where
  all : ∀ t, P (E ++ t) = .ok (t, y)
  cut : ∀ k, k < E.length → ∃ e, P (E.take k) = .error e
theorem BackQ.bind {α β : Type} {P : List Nat → Except Int (α × List Nat)} {Q : α → List Nat → Except Int (List Nat × β)} {R : List Nat → Except Int (List Nat × β)} {E1 E2 : List Nat} {x : α} {y : β}
    (h1 : Back P E1 x) (h2 : BackQ (Q x) E2 y) (hR : ∀ bs, R bs = match P bs with | .error e => .error e | .ok (a, q) => Q a q) : BackQ R (E1 ++ E2) y := by
  constructor
  · intro t
    rw [hR, List.append_assoc, h1.1]
    exact h2.all t
  · intro k hk
    rw [hR]
    by_cases h : k < E1.length
    · rw [List.take_append_of_le_length (by omega), h1.2 k h]
      exact ⟨_, rfl⟩
    · rw [List.take_append, List.take_of_length_le (by omega), h1.1]
      rw [List.length_append] at hk
      exact h2.cut _ (by omega)
theorem BackQ.then {β γ : Type} {P : List Nat → Except Int (List Nat × β)} {Q : β → List Nat → Except Int (List Nat × γ)} {R : List Nat → Except Int (List Nat × γ)} {E1 E2 : List Nat} {x : β} {y : γ}
    (h1 : BackQ P E1 x) (h2 : BackQ (Q x) E2 y) (hR : ∀ bs, R bs = match P bs with | .error e => .error e | .ok (q, a) => Q a q) : BackQ R (E1 ++ E2) y := by
  constructor
  · intro t
    rw [hR, List.append_assoc, h1.all]
    exact h2.all t
  · intro k hk
    rw [hR]
    by_cases h : k < E1.length
    · rw [List.take_append_of_le_length (by omega)]
      obtain ⟨e, he⟩ := h1.cut k h
      rw [he]
      exact ⟨_, rfl⟩
    · rw [List.take_append, List.take_of_length_le (by omega), h1.all]
      rw [List.length_append] at hk
      exact h2.cut _ (by omega)
theorem BackQ.pure {β : Type} {P : List Nat → Except Int (List Nat × β)} {y : β} (h : ∀ t, P t = .ok (t, y)) : BackQ P [] y := ⟨fun t => h t, fun k hk => by simp at hk⟩
theorem lv_flat {f : Nat → Nat} (hf : Flat f) : lv (trimV f) = f := by
  funext i
  by_cases hi : i < 12
  · exact lv_trim f i hi
  · rw [hf.over i (by omega), lv_over]
    have := trimV_len f
    have := topV_le f 12
    omega
theorem stance_back {f : Nat → Nat} {t : Nat} (hf : Flat f) (ht : t < 18446744073709551616) : Back stanceP (enc t ++ encV f) ⟨true, t, f⟩ := by
  have h1 := num_back t ht
  have h2 := vector_back f hf.u32
  constructor
  · intro r
    unfold stanceP
    rw [List.append_assoc, h1.1]
    dsimp only
    rw [h2.1]
    dsimp only
    rw [lv_flat hf]
  · intro k hk
    unfold stanceP
    by_cases h : k < (enc t).length
    · rw [List.take_append_of_le_length (by omega), h1.2 k h]
    · rw [List.take_append, List.take_of_length_le (by omega), h1.1]
      rw [List.length_append] at hk
      dsimp only
      rw [h2.2 _ (by omega)]
theorem said_zero : Back saidP (encSd Sd.zero) Sd.zero := by
  have e : encSd Sd.zero = enc 0 := rfl
  have h1 := small_back 2 0 (by decide) (by decide)
  rw [e]
  constructor
  · intro r; unfold saidP; rw [h1.1]; rfl
  · intro k hk; unfold saidP; rw [h1.2 k hk]
theorem said_vow : Back saidP (encSd ⟨true, St.zero⟩) ⟨true, St.zero⟩ := by
  have e : encSd ⟨true, St.zero⟩ = enc 1 := rfl
  have h1 := small_back 2 1 (by decide) (by decide)
  rw [e]
  constructor
  · intro r; unfold saidP; rw [h1.1]; rfl
  · intro k hk; unfold saidP; rw [h1.2 k hk]
theorem said_bid {f : Nat → Nat} {t : Nat} (hf : Flat f) (ht : t < 18446744073709551616) : Back saidP (encSd ⟨true, true, t, f⟩) ⟨true, true, t, f⟩ := by
  have e : encSd ⟨true, true, t, f⟩ = enc 2 ++ (enc t ++ encV f) := by rw [← List.append_assoc]; rfl
  have h1 := small_back 2 2 (by decide) (by decide)
  have h2 := stance_back hf ht
  rw [e]
  constructor
  · intro r
    unfold saidP
    rw [List.append_assoc, h1.1]
    dsimp only
    rw [if_neg (by decide), if_neg (by decide), h2.1]
  · intro k hk
    unfold saidP
    by_cases h : k < (enc 2).length
    · rw [List.take_append_of_le_length (by omega), h1.2 k h]
    · rw [List.take_append, List.take_of_length_le (by omega), h1.1]
      rw [List.length_append] at hk
      dsimp only
      rw [if_neg (by decide), if_neg (by decide), h2.2 _ (by omega)]
theorem hear_free {cs : List Ct} (hl : cs.length < 20) {x : St} (hr : rightS x = true) : hearE 2 cs Sd.zero ((cs.length + 1 : Nat) : Int) x = 0 := by
  unfold hearE
  rw [hr, if_neg (by decide), if_neg (by decide), if_neg, if_neg, if_neg]
  · simp; omega
  · simp
  · simp [Sd.zero]
theorem right_zero : rightS St.zero = true := by
  unfold rightS St.zero
  rw [if_neg (by decide)]
  have : eqB (fun _ => 0) (fun _ => 0) = true := (eqB_iff _ _).2 fun _ _ => rfl
  rw [this]; rfl
theorem cut_back {p : List Ct} {c : Ct} (h : CutOk p c) : BackQ (fun q => cutT 1 2 q p Sd.zero Sd.zero) (encCt c) (p ++ [c], Sd.zero, Sd.zero) := by
  obtain ⟨o, t, f⟩ := c
  obtain ⟨hf, ht, hl, hw⟩ := h
  simp only at hf ht hw
  have h2 := stance_back hf ht
  have hE : encCt ⟨o, t, f⟩ = enc o.toNat ++ (enc t ++ encV f) := by rw [← List.append_assoc]; rfl
  have hk : ∀ n : Nat, o = (n : Nat) → n ≤ 12 → (∀ q, (if ((n : Nat) : Int) = 1 then
        match propT 1 2 p Sd.zero Sd.zero ⟨true, t, f⟩ with
        | .error x => .error x
        | .ok (cs1, a1, b1) => if (2 : Int) = 0 then .ok (q, cs1, a1, b1) else withB q (hearT 1 2 cs1 a1 b1 ((cs1.length + 1 : Nat) : Int) St.zero)
      else if ((n : Nat) : Int) = 2 then withB q (hearT 1 2 p Sd.zero Sd.zero ((p.length + 1 : Nat) : Int) ⟨true, t, f⟩) else .error 3 : Except Int (List Nat × List Ct × Sd × Sd)) = .ok (q, p ++ [⟨o, t, f⟩], Sd.zero, Sd.zero)) → BackQ (fun q => cutT 1 2 q p Sd.zero Sd.zero) (encCt ⟨o, t, f⟩) (p ++ [⟨o, t, f⟩], Sd.zero, Sd.zero) := by
    intro n hn hn2 hq
    have h1 := small_back 12 n (by omega) (by omega)
    rw [hE, hn, Int.toNat_natCast, ← hn]
    constructor
    · intro r
      unfold cutT
      rw [List.append_assoc, h1.1]
      dsimp only
      rw [h2.1]
      exact hq r
    · intro k hk
      unfold cutT
      by_cases h : k < (enc n).length
      · rw [List.take_append_of_le_length (by omega), h1.2 k h]
        exact ⟨_, rfl⟩
      · rw [List.take_append, List.take_of_length_le (by omega), h1.1]
        rw [List.length_append] at hk
        dsimp only
        rw [h2.2 _ (by omega)]
        exact ⟨_, rfl⟩
  rcases hw with ⟨rfl, hw⟩ | ⟨rfl, hw⟩
  · refine hk 1 rfl (by decide) fun q => ?_
    have hp : propT 1 2 p Sd.zero Sd.zero ⟨true, t, f⟩ = .ok (p, ⟨true, true, t, f⟩, Sd.zero) := by
      unfold propT
      rw [if_pos hw, dec_no (won_own t f)]
    have hh : hearT 1 2 p ⟨true, true, t, f⟩ Sd.zero ((p.length + 1 : Nat) : Int) St.zero = .ok (p ++ [⟨1, t, f⟩], Sd.zero, Sd.zero) := by
      unfold hearT
      rw [if_pos (hear_free hl right_zero), show promP ⟨true, true, t, f⟩ St.zero = false from rfl, if_neg (by decide), dec_yes (won_mine t f)]
    rw [if_pos (show ((1 : Nat) : Int) = 1 from rfl), hp]
    dsimp only
    rw [if_neg (by decide), hh]
    rfl
  · refine hk 2 rfl (by decide) fun q => ?_
    have hh : hearT 1 2 p Sd.zero Sd.zero ((p.length + 1 : Nat) : Int) ⟨true, t, f⟩ = .ok (p ++ [⟨2, t, f⟩], Sd.zero, Sd.zero) := by
      unfold hearT
      rw [if_pos (hear_free hl hw), show promP Sd.zero ⟨true, t, f⟩ = true from rfl, if_pos rfl, dec_yes (won_his t f)]
    rw [if_neg (by decide), if_pos (show ((2 : Nat) : Int) = 2 from rfl), hh]
    rfl
theorem cuts_back : ∀ (l p : List Ct), Cuts (p ++ l) → BackQ (fun q => cutsT 1 2 l.length q p Sd.zero Sd.zero) (l.flatMap encCt) (p ++ l, Sd.zero, Sd.zero)
  | [], p, _ => by rw [List.append_nil]; exact BackQ.pure fun t => rfl
  | c :: l, p, h => by
    have hc : CutOk p c := by
      have := h p.length c (by rw [List.getElem?_append_right (Nat.le_refl _), Nat.sub_self]; rfl)
      rwa [List.take_left' rfl] at this
    have e : p ++ c :: l = (p ++ [c]) ++ l := by simp
    have ih := cuts_back l (p ++ [c]) (by rw [← e]; exact h)
    rw [e, List.flatMap_cons]
    exact BackQ.then (Q := fun z q => cutsT 1 2 l.length q z.1 z.2.1 z.2.2) (cut_back hc) ih fun bs => by
      rw [List.length_cons, cutT_succ]
      cases cutT 1 2 bs p Sd.zero Sd.zero with
      | error e => rfl
      | ok z => rfl
theorem stances_back {s : TS} (h : s.Ok) : BackQ (fun q => stancesT 1 2 q s.cs Sd.zero Sd.zero) (encSd s.a ++ encSd s.b) (s.cs, s.a, s.b) := by
  obtain ⟨cs, a, b⟩ := s
  obtain ⟨hc, hs⟩ := h
  simp only at hc hs ⊢
  have hgo : ∀ (P : Except Int (List Ct × Sd × Sd)), Back saidP (encSd a) a → Back saidP (encSd b) b → partT a cs Sd.zero Sd.zero (propT 1 2 cs Sd.zero Sd.zero a.s) = .ok (cs, a, Sd.zero) → partT b cs a Sd.zero (hearT 1 2 cs a Sd.zero ((cs.length + 1 : Nat) : Int) b.s) = .ok (cs, a, b) → BackQ (fun q => stancesT 1 2 q cs Sd.zero Sd.zero) (encSd a ++ encSd b) (cs, a, b) := by
    intro P h1 h2 h3 h4
    constructor
    · intro r
      unfold stancesT
      rw [List.append_assoc, h1.1]
      dsimp only
      rw [h3]
      dsimp only
      rw [h2.1]
      dsimp only
      rw [h4]
      dsimp only
      rw [if_pos rfl]
    · intro k hk
      unfold stancesT
      by_cases h : k < (encSd a).length
      · rw [List.take_append_of_le_length (by omega), h1.2 k h]
        exact ⟨_, rfl⟩
      · rw [List.take_append, List.take_of_length_le (by omega), h1.1]
        rw [List.length_append] at hk
        dsimp only
        rw [h3]
        dsimp only
        rw [h2.2 _ (by omega)]
        exact ⟨_, rfl⟩
  rcases hs with ⟨rfl, rfl⟩ | ⟨rfl, t, f, rfl, hf, ht, hp⟩ | ⟨rfl, rfl, hl⟩
  · exact hgo (.error 0) said_zero said_zero rfl rfl
  · refine hgo (.error 0) (said_bid hf ht) said_zero ?_ rfl
    unfold partT propT
    rw [if_pos rfl, if_pos hp, dec_no (won_own t f)]
  · refine hgo (.error 0) said_zero said_vow rfl ?_
    unfold partT hearT
    rw [if_pos rfl, if_pos (hear_free hl right_zero), show promP Sd.zero St.zero = false from rfl, if_neg (by decide), dec_no (won_wait St.zero)]
theorem rest_back {s : TS} (h : s.Ok) : BackQ (fun q => restT 1 2 q) (enc s.cs.length ++ (s.cs.flatMap encCt ++ (encSd s.a ++ encSd s.b))) (s.cs, s.a, s.b) := by
  have hl := h.cuts.len
  have h1 := small_back 20 s.cs.length (by omega) (by omega)
  have h2 := cuts_back s.cs [] h.cuts
  rw [List.nil_append] at h2
  refine BackQ.bind h1 (Q := fun n q => match cutsT 1 2 n q [] Sd.zero Sd.zero with
    | .error x => .error x
    | .ok (q', cs, a, b) => stancesT 1 2 q' cs a b) ?_ fun bs => by
      unfold restT
      cases smallP 20 bs with
      | error e => rfl
      | ok z => rfl
  exact BackQ.then (Q := fun z q => stancesT 1 2 q z.1 z.2.1 z.2.2) h2 (stances_back h) fun bs => by
      (try dsimp only)
      cases cutsT 1 2 s.cs.length bs [] Sd.zero Sd.zero with
      | error e => rfl
      | ok z => rfl
theorem encT_eq (cs : List Ct) (a b : Sd) : encT 1 2 cs a b = enc 1 ++ (enc 2 ++ (enc cs.length ++ (cs.flatMap encCt ++ (encSd a ++ encSd b)))) := by unfold encT; simp [List.append_assoc]
theorem table_yes {s : TS} (h : s.Ok) (t : List Nat) : tableT (encT 1 2 s.cs s.a s.b ++ t) = .ok (1, 2, t, s.cs, s.a, s.b) := by
  have h1 := small_back 12 1 (by decide) (by decide)
  have h2 := small_back 12 2 (by decide) (by decide)
  have h3 := rest_back h
  unfold tableT
  rw [encT_eq, List.append_assoc, h1.1]
  dsimp only
  rw [List.append_assoc, h2.1]
  dsimp only
  rw [if_pos (by decide)]
  have := h3.all t
  (try dsimp only at this)
  rw [show ((1 : Nat) : Int) = 1 from rfl, show ((2 : Nat) : Int) = 2 from rfl, this]
theorem table_cut {s : TS} (h : s.Ok) {k : Nat} (hk : k < (encT 1 2 s.cs s.a s.b).length) : ∃ e, tableT ((encT 1 2 s.cs s.a s.b).take k) = .error e := by
  have h1 := small_back 12 1 (by decide) (by decide)
  have h2 := small_back 12 2 (by decide) (by decide)
  have h3 := rest_back h
  rw [encT_eq] at hk ⊢
  unfold tableT
  by_cases c1 : k < (enc 1).length
  · rw [List.take_append_of_le_length (by omega), h1.2 k c1]
    exact ⟨_, rfl⟩
  · rw [List.take_append, List.take_of_length_le (by omega), h1.1]
    rw [List.length_append] at hk
    dsimp only
    by_cases c2 : k - (enc 1).length < (enc 2).length
    · rw [List.take_append_of_le_length (by omega), h2.2 _ c2]
      exact ⟨_, rfl⟩
    · rw [List.take_append, List.take_of_length_le (by omega), h2.1]
      rw [List.length_append] at hk
      dsimp only
      rw [if_pos (by decide)]
      obtain ⟨e, he⟩ := h3.cut (k - (enc 1).length - (enc 2).length) (by omega)
      (try dsimp only at he)
      rw [show ((1 : Nat) : Int) = 1 from rfl, show ((2 : Nat) : Int) = 2 from rfl, he]
      exact ⟨_, rfl⟩
end Cb
end Go.Proofs.Ytbnapbjmffajfaa
namespace Go.Proofs.Ytbnapbjmffajfaa
open Go.RowKit Go.ChangeShapes Go.WideShapes Go.ChangeAt Go.WideElems
set_option linter.unusedSimpArgs false
set_option linter.unusedVariables false
namespace Cb
theorem vec_flat {cs : List Value} (hl : cs.length = 12) (h : ∀ i, i < 12 → ∃ n : Int, cs[i]? = some (.int .u32 n) ∧ 0 ≤ n ∧ n < 4294967296) : ∃ f : Nat → Nat, cs = vl f ∧ Flat f := by
  refine ⟨fun i => Cu.cellNat cs[i]?, ?_, ⟨fun i hi => ?_, fun i => Cu.cellNat_lt _⟩⟩
  · apply List.ext_getElem?
    intro i
    by_cases hi : i < 12
    · obtain ⟨n, e, h0, h1⟩ := h i hi
      rw [vl_get hi, e]
      have : ((Cu.cellNat (some (.int .u32 n)) : Nat) : Int) = n := by
        show ((n.toNat % 4294967296 : Nat) : Int) = n
        omega
      rw [this]
    · rw [List.getElem?_eq_none (by omega), List.getElem?_eq_none (by rw [vl_len]; omega)]
  · show Cu.cellNat cs[i]? = 0
    rw [List.getElem?_eq_none (by omega)]
    rfl
section
variable {H : Type} {enc : TypeId × Value → H} {w : World}
theorem vec_trodF {base fuel : Nat} {sp : Nat → Bool} {hd : Bool} {cs : List Value} {x : DataW H × List MemPlace} (h : DataW.trod enc Try.prog w base sp hd fuel 33 cs = some x) : ∃ f : Nat → Nat, cs = vl f ∧ Flat f := by
  obtain ⟨xs, m, _, _, hlen, hx, hg⟩ := DataW.trod_array Try.underlying33 h
  rw [Cu.cells_vec] at hlen
  refine vec_flat hlen fun i hi => ?_
  have h1 := hg i hi
  rw [Cu.cells_u32, Nat.mul_one, List.drop_eq_getElem_cons (by omega), List.take_succ_cons, List.take_zero] at h1
  have h2 : xs[i]? = some (xs[i]'(by omega)) := List.getElem?_eq_getElem (by omega)
  rw [h2] at h1
  obtain ⟨n, e, _, hw⟩ := DataW.trod_int Try.underlying31 h1
  have hb := bounds_u32 hw
  refine ⟨n, ?_, by omega, by omega⟩
  rw [List.getElem?_eq_getElem (by omega)]
  rw [(List.cons.inj e).1]
theorem cells_st : Try.prog.cellsOf 39 = 14 := by kernel_rfl
theorem cells_two : Try.prog.cellsOf 4 = 1 ∧ Try.prog.cellsOf 30 = 1 ∧ Try.prog.cellsOf 3 = 1 := ⟨by kernel_rfl, by kernel_rfl, by kernel_rfl⟩
theorem three_of {cs v : List Value} {a b : Value} (hl : cs.length = 14) (h0 : (cs.drop 0).take 1 = [a]) (h1 : (cs.drop 1).take 1 = [b]) (h2 : (cs.drop 2).take 12 = v) : cs = [a, b] ++ v := by
  match cs, hl with
  | x0 :: x1 :: r, hl =>
    simp only [List.drop_zero, List.drop_succ_cons, List.take_succ_cons, List.take_zero, List.cons.injEq, and_true] at h0 h1 h2
    simp only [List.length_cons] at hl
    rw [List.take_of_length_le (by omega)] at h2
    rw [h0, h1, h2]; rfl
theorem four_of {cs v : List Value} {a b c : Value} (hl : cs.length = 17) (h0 : (cs.drop 0).take 1 = [a]) (h1 : (cs.drop 1).take 1 = [b]) (h2 : (cs.drop 2).take 1 = [c]) (h3 : (cs.drop 3).take 14 = v) : cs = [a, b, c] ++ v := by
  match cs, hl with
  | x0 :: x1 :: x2 :: r, hl =>
    simp only [List.drop_zero, List.drop_succ_cons, List.take_succ_cons, List.take_zero, List.cons.injEq, and_true] at h0 h1 h2 h3
    simp only [List.length_cons] at hl
    rw [List.take_of_length_le (by omega)] at h3
    rw [h0, h1, h2, h3]; rfl
structure StOk (x : St) : Prop where
  f : Flat x.f
  t : x.t < 18446744073709551616
set_option maxRecDepth 100000 in
theorem open_st {base fuel : Nat} {hd : Bool} {cs : List Value} {x : DataW H × List MemPlace} (h : DataW.trod enc Try.prog w base (fun _ => true) hd fuel 39 cs = some x) : ∃ p : St, cs = p.cells ∧ StOk p := by
  obtain ⟨xs, m, _, hx, hcl, hlen, hg⟩ := DataW.trod_struct Try.underlying39 h
  rw [cells_st] at hcl
  have g0 : DataW.trod enc Try.prog w base (fun _ => true) hd m 4 ((cs.drop 0).take (Try.prog.cellsOf 4)) = xs[0]? := hg 0 _ rfl
  have g1 : DataW.trod enc Try.prog w base (fun _ => true) hd m 30 ((cs.drop 1).take (Try.prog.cellsOf 30)) = xs[1]? := hg 1 _ rfl
  have g2 : DataW.trod enc Try.prog w base (fun _ => true) hd m 33 ((cs.drop 2).take (Try.prog.cellsOf 33)) = xs[2]? := hg 2 _ rfl
  have hlen3 : xs.length = 3 := hlen
  clear hg hlen
  rw [cells_two.1] at g0
  rw [cells_two.2.1] at g1
  rw [Cu.cells_vec] at g2
  rw [List.getElem?_eq_getElem (by omega)] at g0 g1 g2
  obtain ⟨k, e0, _⟩ := DataW.trod_bool Try.underlying4 g0
  obtain ⟨p, e1, _, w1⟩ := DataW.trod_int Try.underlying30 g1
  obtain ⟨f, e2, hf⟩ := vec_trodF g2
  have b1 := bounds_u64 w1
  obtain ⟨p', rfl⟩ : ∃ p' : Nat, p = p' := ⟨p.toNat, by omega⟩
  refine ⟨⟨k, p', f⟩, ?_, ⟨hf, by show p' < _; omega⟩⟩
  rw [three_of hcl e0 e1 e2]
  unfold St.cells
  rfl
end
/-- An op that came in. -/
structure Oc where
  hears : Bool
  next : Bool
  r : Int
  s : St
def Oc.cells (x : Oc) : List Value := [.bool x.hears, .bool x.next, .int .i64 x.r] ++ x.s.cells
theorem oc_len (x : Oc) : x.cells.length = 17 := by unfold Oc.cells; rw [List.length_append, st_len]; rfl
theorem oc_0 (x : Oc) : x.cells[0]? = some (.bool x.hears) := rfl
theorem oc_1 (x : Oc) : x.cells[1]? = some (.bool x.next) := rfl
theorem oc_2 (x : Oc) : x.cells[2]? = some (.int .i64 x.r) := rfl
theorem oc_3 (x : Oc) (j : Nat) : x.cells[3 + j]? = x.s.cells[j]? := by unfold Oc.cells; rw [List.getElem?_append_right (by simp)]; simp
theorem oc_ones (x : Oc) : ∀ v ∈ x.cells, v.oneCell' = true := by
  intro v hv
  unfold Oc.cells at hv
  simp only [List.mem_append, List.mem_cons, List.not_mem_nil, or_false] at hv
  rcases hv with (rfl | rfl | rfl) | hv
  · rfl
  · rfl
  · rfl
  · exact st_ones _ v hv
section
variable {H : Type} {enc : TypeId × Value → H} {w : World}
theorem cells_oc : Try.prog.cellsOf 54 = 17 := by kernel_rfl
set_option maxRecDepth 100000 in
theorem open_oc {base fuel : Nat} {hd : Bool} {cs : List Value} {x : DataW H × List MemPlace} (h : DataW.trod enc Try.prog w base (fun _ => true) hd fuel 54 cs = some x) : ∃ p : Oc, cs = p.cells ∧ StOk p.s := by
  obtain ⟨xs, m, _, hx, hcl, hlen, hg⟩ := DataW.trod_struct Try.underlying54 h
  rw [cells_oc] at hcl
  have g0 : DataW.trod enc Try.prog w base (fun _ => true) hd m 4 ((cs.drop 0).take (Try.prog.cellsOf 4)) = xs[0]? := hg 0 _ rfl
  have g1 : DataW.trod enc Try.prog w base (fun _ => true) hd m 4 ((cs.drop 1).take (Try.prog.cellsOf 4)) = xs[1]? := hg 1 _ rfl
  have g2 : DataW.trod enc Try.prog w base (fun _ => true) hd m 3 ((cs.drop 2).take (Try.prog.cellsOf 3)) = xs[2]? := hg 2 _ rfl
  have g3 : DataW.trod enc Try.prog w base (fun _ => true) hd m 39 ((cs.drop 3).take (Try.prog.cellsOf 39)) = xs[3]? := hg 3 _ rfl
  have hlen4 : xs.length = 4 := hlen
  clear hg hlen
  rw [cells_two.1] at g0 g1
  rw [cells_two.2.2] at g2
  rw [cells_st] at g3
  rw [List.getElem?_eq_getElem (by omega)] at g0 g1 g2 g3
  obtain ⟨k, e0, _⟩ := DataW.trod_bool Try.underlying4 g0
  obtain ⟨s, e1, _⟩ := DataW.trod_bool Try.underlying4 g1
  obtain ⟨p, e2, _, w2⟩ := DataW.trod_int Try.underlying3 g2
  obtain ⟨f, e3, hf⟩ := open_st g3
  refine ⟨⟨k, s, p, f⟩, ?_, hf⟩
  rw [four_of hcl e0 e1 e2 e3]
  unfold Oc.cells
  rfl
end
attribute [irreducible] Oc.cells
theorem ocinfo (x : Oc) : (Try.prog.info? 54).map (·.size) = some x.cells.length := by rw [oc_len]; kernel_rfl
theorem vec_info (f : Nat → Nat) : (Try.prog.info? 33).map (·.size) = some (vl f).length := by rw [vl_len]; kernel_rfl
/-- What an op says, and leaves. -/
def rnd (s : TS) (o : Oc) : Int := if o.next then ((s.cs.length + 1 : Nat) : Int) else o.r
def doE (s : TS) (o : Oc) : Int := if o.hears then hearE 2 s.cs s.b (rnd s o) o.s else propE s.cs s.a ⟨true, o.s.t, o.s.f⟩
def doS (s : TS) (o : Oc) : TS := if o.hears then s.hear (rnd s o) o.s else s.prop o.s.t o.s.f
theorem ok_do {s : TS} (h : s.Ok) {o : Oc} (ho : StOk o.s) : (doS s o).Ok := by
  unfold doS
  split
  · exact ok_hear h ho.f ho.t
  · exact ok_prop h ho.f ho.t
theorem ownG_le {W : World} {B B' n size : Nat} {e : TypeId} {v : Value} {xs : List Value} (h : W.ownsRow B e size v n xs) (hB : B' ≤ B) : W.ownsRow B' e size v n xs := by
  obtain ⟨hl, h⟩ := h
  refine ⟨hl, h.imp id ?_⟩
  rintro ⟨g, cap, cur, e, hg, r⟩
  exact ⟨g, cap, cur, e, Nat.le_trans hB hg, r⟩
/-- A table, as one state. -/
def TT (W : World) (B t : Nat) (F : Nat → Prop) (s : TS) : Prop := ∃ v, Tb W B t F 1 2 v s.cs s.a s.b
theorem TT.less {W : World} {B B' t : Nat} {F : Nat → Prop} {s : TS} (h : TT W B t F s) (hB : B' ≤ B) : TT W B' t F s := by
  obtain ⟨v, T⟩ := h
  exact ⟨v, T.ft, T.fv, T.blk, ownG_le T.row hB, fun k hk => ⟨Nat.le_trans hB (T.low k hk).1, (T.low k hk).2⟩⟩
theorem TT.next {W W' : World} {B t : Nat} {F : Nat → Prop} {s : TS} (h : TT W B t F s) (hb : Below W.heap.size W W') : TT W' B t F s := by
  obtain ⟨v, T⟩ := h; exact ⟨v, T.next hb⟩
theorem TT.keep {W W' : World} {B t : Nat} {F : Nat → Prop} {s : TS} (h : TT W B t F s) (hk : ∀ k, F k → W'.heap[k]? = W.heap[k]?) (hs : W.heap.size ≤ W'.heap.size) : TT W' B t F s := by
  obtain ⟨v, T⟩ := h; exact ⟨v, T.keep hk hs⟩
theorem TT.low {W : World} {B t : Nat} {F : Nat → Prop} {s : TS} (h : TT W B t F s) : ∀ k, F k → B ≤ k ∧ k < W.heap.size := by obtain ⟨v, T⟩ := h; exact T.low
theorem TT.base {W : World} {B t : Nat} {F : Nat → Prop} {s : TS} (h : TT W B t F s) : B ≤ W.heap.size := by
  obtain ⟨v, T⟩ := h; have := T.low t T.ft; omega
/-- A call behind new blocks: what it leaves, seen from ahead of them. -/
theorem tt_turn {W w w' w'' : World} {B t : Nat} {F : Nat → Prop} {own other : Int} {cs : List Ct} {a b : Sd} (hB : B ≤ W.heap.size) (hF : ∀ k, F k → k < W.heap.size) (hb : Below W.heap.size W w) (hD : DecP w B t F own other cs a b w') (hb2 : Below w'.heap.size w' w'') :
    (∃ v, Tb w'' B t (Grow F W w'') own other v (decT own other cs a b).1 (decT own other cs a b).2.1 (decT own other cs a b).2.2) ∧ Turn B F W w'' := by
  obtain ⟨v', T', tn⟩ := hD
  have h1 := tn.1.size
  have h2 := hb2.size
  have h3 := hb.size
  refine ⟨⟨v', (T'.next hb2).wider ?_ ?_⟩, ?_⟩
  · rintro k (hk | ⟨k1, k2⟩)
    · exact Or.inl hk
    · exact Or.inr ⟨by omega, by omega⟩
  · rintro k (hk | ⟨k1, k2⟩)
    · have := (T'.low k (Or.inl hk)); exact ⟨this.1, by omega⟩
    · exact ⟨by omega, k2⟩
  · refine ⟨((hb.mono hB).trans tn.1).trans (hb2.mono (by omega)), fun k hk hn => ?_⟩
    exact ((hb2.block k (by omega)).trans (tn.2 k (by omega) hn)).trans (hb.block k hk)
theorem tt_still {W w : World} {B t : Nat} {F : Nat → Prop} {s : TS} (h : TT W B t F s) (hb : Below W.heap.size W w) : TT w B t (Grow F W w) s ∧ Turn B F W w := by
  have hB := h.base
  obtain ⟨v, T⟩ := h
  have hz := hb.size
  refine ⟨⟨v, (T.next hb).wider (fun k hk => Or.inl hk) ?_⟩, hb.mono hB, fun k hk _ => hb.block k hk⟩
  rintro k (hk | ⟨k1, k2⟩)
  · have := T.low k hk; exact ⟨this.1, by omega⟩
  · exact ⟨by omega, k2⟩
end Cb
end Go.Proofs.Ytbnapbjmffajfaa
namespace Go.Proofs.Ytbnapbjmffajfaa
open Go.RowKit
set_option linter.unusedSimpArgs false
set_option linter.unusedVariables false
namespace Cb
theorem tt_wrap {W w w' w'' : World} {B t : Nat} {F : Nat → Prop} {s : TS} (hB : B ≤ W.heap.size) (hF : ∀ k, F k → k < W.heap.size) (hb : Below W.heap.size W w) (h : TT w' B t (Grow F w w') s) (tn : Turn B F w w') (hb2 : Below w'.heap.size w' w'') :
    TT w'' B t (Grow F W w'') s ∧ Turn B F W w'' := by
  obtain ⟨v', T'⟩ := h
  have h1 := tn.1.size
  have h2 := hb2.size
  have h3 := hb.size
  refine ⟨⟨v', (T'.next hb2).wider ?_ ?_⟩, ?_⟩
  · rintro k (hk | ⟨k1, k2⟩)
    · exact Or.inl hk
    · exact Or.inr ⟨by omega, by omega⟩
  · rintro k (hk | ⟨k1, k2⟩)
    · have := (T'.low k (Or.inl hk)); exact ⟨this.1, by omega⟩
    · exact ⟨by omega, k2⟩
  · refine ⟨((hb.mono hB).trans tn.1).trans (hb2.mono (by omega)), fun k hk hn => ?_⟩
    exact ((hb2.block k (by omega)).trans (tn.2 k (by omega) hn)).trans (hb.block k hk)
section
variable (W : World) {B t : Nat} {F : Nat → Prop} {s : TS}
theorem hear_tt (h : TT W B t F s) (hl : s.cs.length ≤ 100000) (r : Int) (x : St) :
    Calls Try.prog 9 #[.pointer (some ⟨t, 0, none⟩), .int .i64 r, .agg x.cells.toArray] W fun e W' => (∃ b, e = .returned (.tuple #[.bool b, .int .i64 (hearE 2 s.cs s.b r x)])) ∧ TT W' B t (Grow F W W') (s.hear r x) ∧ Turn B F W W' := by
  have h0 := h
  obtain ⟨v, T⟩ := h
  refine (hear_any W T (by decide) hl r x).mono ?_
  intro e W' hp
  unfold HearP at hp
  rcases hp with ⟨hn, rfl, hb⟩ | ⟨hz, rfl, hD⟩
  · have e1 : s.hear r x = s := by unfold TS.hear; rw [if_neg hn]
    rw [e1]
    exact ⟨⟨_, rfl⟩, tt_still h0 hb⟩
  · obtain ⟨v', T', tn⟩ := hD
    have e1 : s.hear r x = TS.of (decT 1 2 s.cs (if promP s.a x then ⟨true, St.zero⟩ else s.a) ⟨true, x⟩) := by unfold TS.hear; rw [if_pos hz]
    rw [e1, hz]
    exact ⟨⟨_, rfl⟩, ⟨v', T'⟩, tn⟩
theorem prop_tt (h : TT W B t F s) (hl : s.cs.length ≤ 100000) (tm : Nat) (f : Nat → Nat) :
    Calls Try.prog 8 #[.pointer (some ⟨t, 0, none⟩), .int .u64 (tm : Nat), .agg (vl f).toArray] W fun e W' => (∃ z : St, e = .returned (.tuple #[.agg z.cells.toArray, .int .i64 (propE s.cs s.a ⟨true, tm, f⟩)])) ∧ TT W' B t (Grow F W W') (s.prop tm f) ∧ Turn B F W W' := by
  have h0 := h
  obtain ⟨v, T⟩ := h
  refine (propose_any W T (by decide) hl tm f).mono ?_
  intro e W' hp
  rcases hp with ⟨hn, rfl, hb⟩ | ⟨hz, rfl, hD⟩
  · have e1 : s.prop tm f = s := by unfold TS.prop; rw [if_neg hn]
    rw [e1]
    exact ⟨⟨_, rfl⟩, tt_still h0 hb⟩
  · obtain ⟨v', T', tn⟩ := hD
    have e1 : s.prop tm f = TS.of (decT 1 2 s.cs ⟨true, true, tm, f⟩ s.b) := by unfold TS.prop; rw [if_pos hz]
    rw [e1, hz]
    exact ⟨⟨_, rfl⟩, ⟨v', T'⟩, tn⟩
theorem cuts_tt (h : TT W B t F s) (hl : s.cs.length ≤ 100000) : Calls Try.prog 7 #[.pointer (some ⟨t, 0, none⟩)] W fun e W' => (∃ A c, e = .returned (.slice A s.cs.length c)) ∧ Below W.heap.size W W' := by
  obtain ⟨v, T⟩ := h
  refine (cuts_any W T hl).mono ?_
  rintro e W' ⟨v', rfl, ho, hb⟩
  refine ⟨?_, hb⟩
  obtain ⟨_, ⟨rfl, h0⟩ | ⟨q, cap, cur, rfl, _⟩⟩ := ho
  · exact ⟨none, 0, by rw [h0]⟩
  · exact ⟨_, cap, rfl⟩
set_option maxRecDepth 20000 in
set_option maxHeartbeats 4000000 in
theorem do_any (h : TT W B t F s) (hl : s.cs.length ≤ 100000) (o : Oc) : Calls Try.prog 12 #[.pointer (some ⟨t, 0, none⟩), .agg o.cells.toArray] W fun e W' =>
    e = .returned (.int .i64 (doE s o)) ∧ TT W' B t (Grow F W W') (doS s o) ∧ Turn B F W W' := by
  have hb1 := (Below.refl W.heap.size W).alloc (Nat.le_refl _) (.cells o.cells.toArray 54)
  have b1 := Blk.new W 54 o.cells.toArray
  have hB := h.base
  have hF := fun k hk => (h.low k hk).2
  obtain ⟨w1, hw1⟩ : ∃ w1, w1 = W.alloc (.cells o.cells.toArray 54) := ⟨_, rfl⟩
  rw [← hw1] at hb1 b1
  have HT1 := Lib.hid (h.next hb1)
  have HB := Lib.hid (And.intro hB (And.intro hF hb1))
  have HX := Lib.hid b1
  have HL := Lib.hid hl
  have hc : ∀ w2, Below w1.heap.size w1 w2 → ∀ i, w2.cell? ⟨W.heap.size, i, none⟩ = o.cells[i]? := fun w2 hb i => by rw [(b1.next hb).cell, List.getElem?_toArray]
  have HC := Lib.hid hc
  obtain ⟨E, hE⟩ : ∃ E, E = doE s o := ⟨_, rfl⟩
  obtain ⟨S', hS⟩ : ∃ S', S' = doS s o := ⟨_, rfl⟩
  have HE := Lib.hid (And.intro hE hS)
  rw [← hE, ← hS]
  have q0 : w1.cell? ⟨W.heap.size, 0, none⟩ = some (.bool o.hears) := (hc w1 (Below.refl _ _) 0).trans (oc_0 o)
  have q1 : w1.cell? ⟨W.heap.size, 1, none⟩ = some (.bool o.next) := (hc w1 (Below.refl _ _) 1).trans (oc_1 o)
  have q2 : w1.cell? ⟨W.heap.size, 2, none⟩ = some (.int .i64 o.r) := (hc w1 (Below.refl _ _) 2).trans (oc_2 o)
  have HW1 := Lib.hid hw1
  clear hc hb1 b1 hB hF hl h hE hS hw1
  go_enter Try.func12, Try.ntmps12
  go_upto_region 1 with fail
  rw [show W.alloc (.cells o.cells.toArray 54) = w1 from HW1.out.symm]
  go_upto_region 2 with fail
  clear q2
  obtain ⟨n, hn⟩ : ∃ n : Nat, n = s.cs.length := ⟨_, rfl⟩
  have HN := Lib.hid hn
  have hn5 : n ≤ 100000 := by rw [hn]; exact HL.out
  clear hn
  obtain ⟨nx, hnx⟩ : ∃ nx, nx = o.next := ⟨_, rfl⟩
  obtain ⟨he, hhe⟩ : ∃ he, he = o.hears := ⟨_, rfl⟩
  rw [← hnx] at q1
  rw [← hhe] at q0
  have HNX := Lib.hid hnx
  have HHE := Lib.hid hhe
  clear hnx hhe
  cases nx with
  | false =>
    have HR := Lib.hid (show rnd s o = o.r from by unfold rnd; rw [← HNX.out]; rfl)
    have HBX := Lib.hid (Below.refl w1.heap.size w1)
    go_upto_region 4 with fail
    clear q1
    cases he with
    | true =>
      have HH := Lib.hid (hear_tt w1 (HT1.out.next HBX.out) HL.out o.r o.s)
      have hr : w1.rangeAt W.heap.size 3 o.s.cells := fun j u hj => by rw [HC.out w1 HBX.out, oc_3, hj]
      obtain ⟨z, hz⟩ : ∃ z, z = hearE 2 s.cs s.b o.r o.s := ⟨_, rfl⟩
      rw [← hz] at HH
      have HZ := Lib.hid hz
      clear hz
      go_wp2_with (first | (refine wpList_load_mid rfl 39 _ rfl _ _ rfl o.s.cells _ hr Try.underlying39 rfl (stinfo _) ?_) | (go_at_call 9; refine HH.out.mono ?_; rintro e w3 ⟨⟨b3, rfl⟩, hT, tn⟩; have HT3 := Lib.hid hT; have HN3 := Lib.hid tn; clear hT tn HH q0))
      go_ret
      have hd := tt_wrap HB.out.1 HB.out.2.1 (HB.out.2.2.trans (HBX.out.mono HB.out.2.2.size)) HT3.out HN3.out (Below.refl _ _)
      have e1 : E = z := by rw [HE.out.1, HZ.out]; unfold doE; rw [← HHE.out, HR.out]; rfl
      have e2 : S' = s.hear o.r o.s := by rw [HE.out.2]; unfold doS; rw [← HHE.out, HR.out]; rfl
      rw [e1, e2]
      exact ⟨rfl, hd.1, hd.2⟩
    | false =>
      have HH := Lib.hid (prop_tt w1 (HT1.out.next HBX.out) HL.out o.s.t o.s.f)
      have hr : w1.rangeAt W.heap.size 5 (vl o.s.f) := fun j u hj => by rw [HC.out w1 HBX.out, show 5 + j = 3 + (2 + j) by omega, oc_3, st_2, hj]
      have q4 : w1.cell? ⟨W.heap.size, 4, none⟩ = some (.int .u64 (o.s.t : Nat)) := (HC.out w1 HBX.out 4).trans ((oc_3 o 1).trans (st_1 _))
      obtain ⟨z, hz⟩ : ∃ z, z = propE s.cs s.a ⟨true, o.s.t, o.s.f⟩ := ⟨_, rfl⟩
      rw [← hz] at HH
      have HZ := Lib.hid hz
      clear hz
      go_wp2_with (first | (refine wpList_load_mid rfl 33 _ rfl _ _ rfl (vl o.s.f) _ hr Try.underlying33 rfl (vec_info _) ?_) | (go_at_call 8; refine HH.out.mono ?_; rintro e w3 ⟨⟨b3, rfl⟩, hT, tn⟩; have HT3 := Lib.hid hT; have HN3 := Lib.hid tn; have hw3 : ∃ w4, w4 = w3 := ⟨_, rfl⟩; clear hT tn HH q0 q4) | (refine wpList_store_blk rfl 39 _ _ rfl w3.heap.size 39 #[.bool false, .int .u64 0, .int .u32 0, .int .u32 0, .int .u32 0, .int .u32 0, .int .u32 0, .int .u32 0, .int .u32 0, .int .u32 0, .int .u32 0, .int .u32 0, .int .u32 0, .int .u32 0] b3.cells.toArray rfl rfl (Blk.new w3 _ _) (stinfoA _) (st_siz _) (st_one _) ?_; intro b5; clear b5; rw [Wr.alloc_setRow]))
      go_ret
      have hd := tt_wrap HB.out.1 HB.out.2.1 (HB.out.2.2.trans (HBX.out.mono HB.out.2.2.size)) HT3.out HN3.out (below_box w3 39 b3.cells.toArray)
      have e1 : E = z := by rw [HE.out.1, HZ.out]; unfold doE; rw [← HHE.out]; rfl
      have e2 : S' = s.prop o.s.t o.s.f := by rw [HE.out.2]; unfold doS; rw [← HHE.out]; rfl
      rw [e1, e2]
      exact ⟨rfl, hd.1, hd.2⟩
  | true =>
    have HCU := Lib.hid (cuts_tt w1 HT1.out HL.out)
    rw [← HN.out] at HCU
    have HR := Lib.hid (show rnd s o = (n : Int) + 1 from by unfold rnd; rw [← HNX.out, HN.out]; rfl)
    go_upto_region 4 with (first | (go_at_call 7; refine HCU.out.mono ?_; rintro e w2 ⟨⟨A2, c2, rfl⟩, hb⟩; have HBX := Lib.hid hb; clear hb HCU))
    clear q1
    have q0 : w2.cell? ⟨W.heap.size, 0, none⟩ = some (.bool he) := (HC.out w2 HBX.out 0).trans (by rw [HHE.out]; exact oc_0 o)
    cases he with
    | true =>
      have HH := Lib.hid (hear_tt w2 (HT1.out.next HBX.out) HL.out ((n : Int) + 1) o.s)
      have hr : w2.rangeAt W.heap.size 3 o.s.cells := fun j u hj => by rw [HC.out w2 HBX.out, oc_3, hj]
      obtain ⟨z, hz⟩ : ∃ z, z = hearE 2 s.cs s.b ((n : Int) + 1) o.s := ⟨_, rfl⟩
      rw [← hz] at HH
      have HZ := Lib.hid hz
      clear hz
      go_wp2_with (first | (refine wpList_load_mid rfl 39 _ rfl _ _ rfl o.s.cells _ hr Try.underlying39 rfl (stinfo _) ?_) | (go_at_call 9; refine HH.out.mono ?_; rintro e w3 ⟨⟨b3, rfl⟩, hT, tn⟩; have HT3 := Lib.hid hT; have HN3 := Lib.hid tn; clear hT tn HH q0))
      go_ret
      have hd := tt_wrap HB.out.1 HB.out.2.1 (HB.out.2.2.trans (HBX.out.mono HB.out.2.2.size)) HT3.out HN3.out (Below.refl _ _)
      have e1 : E = z := by rw [HE.out.1, HZ.out]; unfold doE; rw [← HHE.out, HR.out]; rfl
      have e2 : S' = s.hear ((n : Int) + 1) o.s := by rw [HE.out.2]; unfold doS; rw [← HHE.out, HR.out]; rfl
      rw [e1, e2]
      exact ⟨rfl, hd.1, hd.2⟩
    | false =>
      have HH := Lib.hid (prop_tt w2 (HT1.out.next HBX.out) HL.out o.s.t o.s.f)
      have hr : w2.rangeAt W.heap.size 5 (vl o.s.f) := fun j u hj => by rw [HC.out w2 HBX.out, show 5 + j = 3 + (2 + j) by omega, oc_3, st_2, hj]
      have q4 : w2.cell? ⟨W.heap.size, 4, none⟩ = some (.int .u64 (o.s.t : Nat)) := (HC.out w2 HBX.out 4).trans ((oc_3 o 1).trans (st_1 _))
      obtain ⟨z, hz⟩ : ∃ z, z = propE s.cs s.a ⟨true, o.s.t, o.s.f⟩ := ⟨_, rfl⟩
      rw [← hz] at HH
      have HZ := Lib.hid hz
      clear hz
      go_wp2_with (first | (refine wpList_load_mid rfl 33 _ rfl _ _ rfl (vl o.s.f) _ hr Try.underlying33 rfl (vec_info _) ?_) | (go_at_call 8; refine HH.out.mono ?_; rintro e w3 ⟨⟨b3, rfl⟩, hT, tn⟩; have HT3 := Lib.hid hT; have HN3 := Lib.hid tn; have hw3 : ∃ w4, w4 = w3 := ⟨_, rfl⟩; clear hT tn HH q0 q4) | (refine wpList_store_blk rfl 39 _ _ rfl w3.heap.size 39 #[.bool false, .int .u64 0, .int .u32 0, .int .u32 0, .int .u32 0, .int .u32 0, .int .u32 0, .int .u32 0, .int .u32 0, .int .u32 0, .int .u32 0, .int .u32 0, .int .u32 0, .int .u32 0] b3.cells.toArray rfl rfl (Blk.new w3 _ _) (stinfoA _) (st_siz _) (st_one _) ?_; intro b5; clear b5; rw [Wr.alloc_setRow]))
      go_ret
      have hd := tt_wrap HB.out.1 HB.out.2.1 (HB.out.2.2.trans (HBX.out.mono HB.out.2.2.size)) HT3.out HN3.out (below_box w3 39 b3.cells.toArray)
      have e1 : E = z := by rw [HE.out.1, HZ.out]; unfold doE; rw [← HHE.out]; rfl
      have e2 : S' = s.prop o.s.t o.s.f := by rw [HE.out.2]; unfold doS; rw [← HHE.out]; rfl
      rw [e1, e2]
      exact ⟨rfl, hd.1, hd.2⟩
end
end Cb
end Go.Proofs.Ytbnapbjmffajfaa

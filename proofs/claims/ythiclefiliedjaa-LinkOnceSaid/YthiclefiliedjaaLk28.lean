/-
link: LinkOnce's mathematics: what is on its way, and what comes.
-/
import Derived.Test.YthiclefiliedjaaLk25
namespace Go.Proofs.Ythiclefiliedjaa
open Go.RowKit
set_option linter.unusedSimpArgs false
set_option linter.unusedVariables false
namespace Lk
/-- Something in the net. -/
structure Th where
  k : Bool
  q : Nat
  bs : List Nat
/-- Two links: what the first one sent, how many it heard were taken, how many the second one took. -/
structure Mx where
  sent : List (List Nat)
  a : Nat
  t : Nat
def Mx.l1 (m : Mx) : LS := ⟨m.sent.length + 1, 1, m.sent.drop m.a⟩
def Mx.l2 (m : Mx) : LS := ⟨1, m.t + 1, []⟩
/-- A thing that may be on its way. -/
def Th.On (x : Th) (m : Mx) : Prop := if x.k then x.q ≤ m.t else 1 ≤ x.q ∧ m.sent[x.q - 1]? = some x.bs
structure Mx.Ok (m : Mx) (net : List Th) : Prop where
  at_ : m.a ≤ m.t
  ts : m.t ≤ m.sent.length
  on : ∀ x ∈ net, x.On m
theorem Th.On.more {x : Th} {m m' : Mx} (h : x.On m) (hs : ∀ (i : Nat) b, m.sent[i]? = some b → m'.sent[i]? = some b) (ht : m.t ≤ m'.t) : x.On m' := by
  unfold Th.On at h ⊢
  split at h
  · rename_i hk; rw [if_pos hk]; omega
  · rename_i hk; rw [if_neg hk]; exact ⟨h.1, hs _ _ h.2⟩
theorem once_send {m : Mx} {net : List Th} (h : m.Ok net) (b : List Nat) : Mx.Ok ⟨m.sent ++ [b], m.a, m.t⟩ net :=
  ⟨h.at_, by rw [List.length_append]; have := h.ts; show m.t ≤ _; omega, fun x hx => (h.on x hx).more (fun i y hy => by
    have := (List.getElem?_eq_some_iff.1 hy).1
    show (m.sent ++ [b])[i]? = _
    rw [List.getElem?_append_left this]; exact hy) (Nat.le_refl _)⟩
theorem once_l1_send {m : Mx} (h : m.a ≤ m.sent.length) (b : List Nat) (h0 : sendE m.l1 b.length = 0) : m.l1.send b = Mx.l1 ⟨m.sent ++ [b], m.a, m.t⟩ := by
  unfold LS.send
  rw [if_pos h0]
  unfold Mx.l1
  rw [List.drop_append_of_le_length h, List.length_append]
  rfl
/-- An acknowledgement comes. -/
theorem once_ack {m : Mx} {net : List Th} (h : m.Ok net) {q : Nat} (hq : q ≤ m.t) :
    ackE m.l1 q = 0 ∧ m.l1.ack q = Mx.l1 ⟨m.sent, max m.a q, m.t⟩ ∧ Mx.Ok ⟨m.sent, max m.a q, m.t⟩ net := by
  have ha := h.at_
  have ht := h.ts
  have hnx : m.l1.nx = m.sent.length + 1 := rfl
  have hl : m.l1.ts.length = m.sent.length - m.a := List.length_drop
  refine ⟨by unfold ackE; rw [hnx, if_neg (by omega)], ?_, by show max m.a q ≤ m.t; omega, ht, fun x hx => (h.on x hx).more (fun _ _ h => h) (Nat.le_refl _)⟩
  unfold LS.ack ackN
  rw [hnx, hl, if_neg (by omega)]
  show (⟨m.sent.length + 1, 1, (m.sent.drop m.a).drop _⟩ : LS) = ⟨m.sent.length + 1, 1, m.sent.drop (max m.a q)⟩
  rw [List.drop_drop]
  congr 2
  omega
/-- A text comes: what Take says. -/
theorem once_take {m : Mx} {net : List Th} (h : m.Ok net) (hs : m.sent.length ≤ 1000) {q : Nat} {b : List Nat} (h1 : 1 ≤ q) (hb : m.sent[q - 1]? = some b) :
    (q ≤ m.t ∧ takeE m.l2 q = (false, 0) ∧ m.l2.take q = m.l2) ∨
    (q = m.t + 1 ∧ takeE m.l2 q = (true, 0) ∧ m.l2.take q = Mx.l2 ⟨m.sent, m.a, m.t + 1⟩ ∧ Mx.Ok ⟨m.sent, m.a, m.t + 1⟩ net ∧ m.sent.take (m.t + 1) = m.sent.take m.t ++ [b]) ∨
    (m.t + 1 < q ∧ takeE m.l2 q = (false, 14) ∧ m.l2.take q = m.l2) := by
  have hql := (List.getElem?_eq_some_iff.1 hb).1
  have hex : m.l2.ex = m.t + 1 := rfl
  by_cases hq : q ≤ m.t
  · left
    have e : takeE m.l2 q = (false, 0) := by unfold takeE; rw [hex, if_pos (by omega)]
    exact ⟨hq, e, by unfold LS.take; rw [e, if_neg (by decide)]⟩
  by_cases he : q = m.t + 1
  · right; left
    have e : takeE m.l2 q = (true, 0) := by unfold takeE; rw [hex, if_neg (by omega), if_neg (by omega), if_neg (by omega)]
    refine ⟨he, e, by unfold LS.take; rw [e, if_pos rfl]; rfl, ⟨by have := h.at_; show m.a ≤ m.t + 1; omega, by show m.t + 1 ≤ m.sent.length; omega, fun x hx => (h.on x hx).more (fun _ _ h => h) (Nat.le_succ _)⟩, ?_⟩
    rw [List.take_add_one, show m.t = q - 1 by omega, hb]
    rfl
  · right; right
    have e : takeE m.l2 q = (false, 14) := by unfold takeE; rw [hex, if_neg (by omega), if_pos (by omega)]
    exact ⟨by omega, e, by unfold LS.take; rw [e, if_neg (by decide)]⟩
/-- What was taken begins what was sent. -/
theorem once_begins {m : Mx} {net : List Th} (h : m.Ok net) {i : Nat} (hi : i < m.t) : ∃ b, m.sent[i]? = some b ∧ (m.sent.take m.t)[i]? = some b ∧ (m.sent.take m.t).length = m.t := by
  have ht := h.ts
  refine ⟨m.sent[i], List.getElem?_eq_getElem (by omega), ?_, by rw [List.length_take]; omega⟩
  rw [List.getElem?_take, if_pos hi]
  exact List.getElem?_eq_getElem (by omega)
/-- All that waits, as things of the net. -/
def Mx.wait (m : Mx) : List Th := (List.range (m.sent.length - m.a)).map fun i => ⟨false, m.a + i + 1, m.sent.getD (m.a + i) []⟩
theorem wait_on (m : Mx) (ha : m.a ≤ m.sent.length) : ∀ x ∈ m.wait, x.On m := by
  intro x hx
  unfold Mx.wait at hx
  obtain ⟨i, hi, rfl⟩ := List.mem_map.1 hx
  have hi := List.mem_range.1 hi
  unfold Th.On
  rw [if_neg (by intro h; cases h)]
  refine ⟨by show 1 ≤ m.a + i + 1; omega, ?_⟩
  show m.sent[m.a + i + 1 - 1]? = some (m.sent.getD (m.a + i) [])
  rw [Nat.add_sub_cancel, List.getD_eq_getElem?_getD, List.getElem?_eq_getElem (by omega)]
  rfl
/-- A whole round: behind i of the texts that waited so many are taken, and so many acknowledgements go back. -/
structure Rnd (m0 m : Mx) (i : Nat) : Prop where
  sent : m.sent = m0.sent
  a : m.a = m0.a
  t : m.t = max m0.t (m0.a + i)
theorem rnd_start (m : Mx) (h : m.a ≤ m.t) : Rnd m m 0 := ⟨rfl, rfl, by omega⟩
theorem rnd_step {m0 m : Mx} {i : Nat} (h : Rnd m0 m i) (h0 : m0.a ≤ m0.t) : m0.a + i + 1 ≤ m.t ∨ m0.a + i + 1 = m.t + 1 := by
  have := h.t
  omega
theorem rnd_end {m0 m : Mx} (h : Rnd m0 m (m0.sent.length - m0.a)) (h0 : m0.a ≤ m0.t) (h1 : m0.t ≤ m0.sent.length) : m.t = m.sent.length := by
  have := h.t
  rw [h.sent]
  omega
end Lk
end Go.Proofs.Ythiclefiliedjaa

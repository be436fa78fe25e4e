/-
link: anything comes out of the net.
-/
import Derived.Test.YthiclefiliedjaaLk34
namespace Go.Proofs.Ythiclefiliedjaa
open Go.RowKit
set_option linter.unusedSimpArgs false
set_option linter.unusedVariables false
namespace Lk
/-- An acknowledgement is put behind the net, where there is room. -/
def ackPut (t : Nat) (net : List Th) : List Th := if net.length < 400 then net ++ [⟨true, t, []⟩] else net
/-- What a thing that comes makes of the two links. -/
def Mx.come (m : Mx) (x : Th) : Mx := if x.k then ⟨m.sent, max m.a x.q, m.t⟩ else if x.q = m.t + 1 then ⟨m.sent, m.a, m.t + 1⟩ else m
/-- What it makes of the net. -/
def Mx.left (m : Mx) (x : Th) (net : List Th) : List Th := if x.k then net else if x.q ≤ m.t + 1 then ackPut (m.come x).t net else net
/-- A meeting: the two links and the net. -/
def MS (W w : World) (g d1 d2 : Nat) (m : Mx) (net : List Th) : Prop := ∃ vn vs vt, Mt W w g d1 d2 m.l1 m.l2 net m.sent (m.sent.take m.t) vn vs vt
theorem ok_ackPut {m : Mx} {net : List Th} (h : m.Ok net) : m.Ok (ackPut m.t net) := by
  unfold ackPut
  split
  · refine ⟨h.at_, h.ts, fun x hx => ?_⟩
    rcases List.mem_append.1 hx with hx | hx
    · exact h.on x hx
    · have : x = ⟨true, m.t, []⟩ := by simpa using hx
      subst this
      unfold Th.On
      rw [if_pos rfl]
      exact Nat.le_refl _
  · exact h
theorem len_ackPut {t : Nat} {net : List Th} (h : net.length ≤ 400) : (ackPut t net).length ≤ 400 := by
  unfold ackPut
  split
  · rw [List.length_append]; show net.length + 1 ≤ 400; omega
  · exact h
set_option maxHeartbeats 1000000 in
theorem come_any {W w : World} {g d1 d2 : Nat} {m : Mx} {net : List Th} (h : MS W w g d1 d2 m net) (ho : m.Ok net) (x : Th) (hx : x.On m) (hn : net.length ≤ 400) (hs : m.sent.length ≤ 1000) :
    Calls Try.prog 22 #[.pointer (some ⟨g, 0, none⟩), .agg x.cells.toArray] w fun e w' => e = .returned (.bool true) ∧ MS W w' g d1 d2 (m.come x) (m.left x net) ∧ (m.come x).Ok (m.left x net) ∧ (m.left x net).length ≤ 400 := by
  obtain ⟨vn, vs, vt, h⟩ := h
  obtain ⟨k, q, bs⟩ := x
  have htk : (m.sent.take m.t).length ≤ 1000 := by rw [List.length_take]; omega
  have hts := ho.ts
  cases k with
  | true =>
    have hq : q ≤ m.t := by unfold Th.On at hx; rw [if_pos rfl] at hx; exact hx
    have e1 : m.come ⟨true, q, bs⟩ = ⟨m.sent, max m.a q, m.t⟩ := by unfold Mx.come; rw [if_pos rfl]
    have e2 : m.left ⟨true, q, bs⟩ net = net := by unfold Mx.left; rw [if_pos rfl]
    rw [e1, e2]
    refine (come_ack h ho q bs hq).mono ?_
    rintro e w' ⟨rfl, hM⟩
    exact ⟨rfl, ⟨_, _, _, hM⟩, (once_ack ho hq).2.2, hn⟩
  | false =>
    unfold Th.On at hx
    rw [if_neg (by intro h; cases h)] at hx
    replace hx : 1 ≤ q ∧ m.sent[q - 1]? = some bs := hx
    rcases once_take ho hs hx.1 hx.2 with ⟨hq, ht, hl⟩ | ⟨hq, ht, hl, ho2, hk⟩ | ⟨hq, ht, hl⟩
    · have e1 : m.come ⟨false, q, bs⟩ = m := by unfold Mx.come; rw [if_neg (by intro h; cases h), if_neg (by show ¬ q = m.t + 1; omega)]
      have e2 : m.left ⟨false, q, bs⟩ net = ackPut m.t net := by unfold Mx.left; rw [if_neg (by intro h; cases h), if_pos (by show q ≤ m.t + 1; omega), e1]
      rw [e1, e2]
      by_cases hc : net.length < 400
      · refine (come_dup h q bs ht m.t (by rw [hl]; rfl) (by omega) hn htk hc).mono ?_
        rintro e w' ⟨rfl, v1, v2, hM⟩
        rw [hl] at hM
        exact ⟨rfl, ⟨v1, vs, v2, by unfold ackPut; rw [if_pos hc]; exact hM⟩, ok_ackPut ho, len_ackPut hn⟩
      · refine (come_dup_full h q bs ht m.t (by rw [hl]; rfl) (by omega) hn htk (by omega)).mono ?_
        rintro e w' ⟨rfl, v1, v2, hM⟩
        rw [hl] at hM
        exact ⟨rfl, ⟨v1, vs, v2, by unfold ackPut; rw [if_neg hc]; exact hM⟩, ok_ackPut ho, len_ackPut hn⟩
    · have e1 : m.come ⟨false, q, bs⟩ = ⟨m.sent, m.a, m.t + 1⟩ := by unfold Mx.come; rw [if_neg (by intro h; cases h), if_pos hq]
      have e2 : m.left ⟨false, q, bs⟩ net = ackPut (m.t + 1) net := by unfold Mx.left; rw [if_neg (by intro h; cases h), if_pos (by show q ≤ m.t + 1; omega), e1]
      rw [e1, e2]
      by_cases hc : net.length < 400
      · refine (come_next h q bs ht (m.t + 1) (by rw [hl]; rfl) (by omega) hn htk hc).mono ?_
        rintro e w' ⟨rfl, v1, v2, hM⟩
        rw [hl, ← hk] at hM
        exact ⟨rfl, ⟨v1, vs, v2, by unfold ackPut; rw [if_pos hc]; exact hM⟩, ok_ackPut ho2, len_ackPut hn⟩
      · refine (come_next_full h q bs ht (m.t + 1) (by rw [hl]; rfl) (by omega) hn htk (by omega)).mono ?_
        rintro e w' ⟨rfl, v1, v2, hM⟩
        rw [hl, ← hk] at hM
        exact ⟨rfl, ⟨v1, vs, v2, by unfold ackPut; rw [if_neg hc]; exact hM⟩, ok_ackPut ho2, len_ackPut hn⟩
    · have e1 : m.come ⟨false, q, bs⟩ = m := by unfold Mx.come; rw [if_neg (by intro h; cases h), if_neg (by show ¬ q = m.t + 1; omega)]
      have e2 : m.left ⟨false, q, bs⟩ net = net := by unfold Mx.left; rw [if_neg (by intro h; cases h), if_neg (by show ¬ q ≤ m.t + 1; omega)]
      rw [e1, e2]
      refine (come_ahead h q bs ht m.t (by rw [hl]; rfl) (by omega) hn htk).mono ?_
      rintro e w' ⟨rfl, v1, v2, hM⟩
      rw [hl] at hM
      exact ⟨rfl, ⟨v1, vs, v2, hM⟩, ho, hn⟩
end Lk
end Go.Proofs.Ythiclefiliedjaa

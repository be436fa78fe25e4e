/-
link: a whole round: all that waits goes in, and all of it comes.
-/
import Derived.Test.YthiclefiliedjaaLk37
namespace Go.Proofs.Ythiclefiliedjaa
open Go.RowKit
set_option linter.unusedSimpArgs false
set_option linter.unusedVariables false
namespace Lk
def Mx.n (m : Mx) : Nat := m.sent.length - m.a
def Mx.at (m : Mx) (i : Nat) : Mx := ⟨m.sent, if i ≤ m.n then m.a else max m.t (m.a + (i - m.n)), max m.t (m.a + min i m.n)⟩
def Mx.netAt (m : Mx) (i : Nat) : List Th := m.wait ++ (List.range (min i m.n)).map fun j => ⟨true, max m.t (m.a + j + 1), []⟩
theorem mx_ext {m m' : Mx} (h1 : m.sent = m'.sent) (h2 : m.a = m'.a) (h3 : m.t = m'.t) : m = m' := by
  obtain ⟨a, b, c⟩ := m; obtain ⟨a', b', c'⟩ := m'; simp at h1 h2 h3; subst h1 h2 h3; rfl
theorem at_zero {m : Mx} (h : m.a ≤ m.t) : m.at 0 = m := mx_ext rfl (by unfold Mx.at; rw [if_pos (Nat.zero_le _)]) (by unfold Mx.at; show max m.t (m.a + min 0 m.n) = m.t; omega)
theorem netAt_zero (m : Mx) : m.netAt 0 = m.wait := by unfold Mx.netAt; simp
theorem netAt_len (m : Mx) (i : Nat) : (m.netAt i).length = m.n + min i m.n := by
  unfold Mx.netAt
  rw [List.length_append, wait_len, List.length_map, List.length_range]
  rfl
theorem again_nil {m : Mx} (h : m.sent.length ≤ 400) : m.again [] = m.wait := by
  unfold Mx.again
  rw [List.nil_append, List.take_of_length_le (by rw [wait_len]; show _ ≤ 400 - 0; omega)]
theorem wait_get {m : Mx} {i : Nat} (h : i < m.n) : m.wait[i]? = some ⟨false, m.a + i + 1, m.sent.getD (m.a + i) []⟩ := by
  unfold Mx.wait
  rw [List.getElem?_map, List.getElem?_range (show i < m.sent.length - m.a from h)]
  rfl
theorem at_step {m : Mx} {i : Nat} (ha : m.a ≤ m.t) (ht : m.t ≤ m.sent.length) (hs : m.sent.length ≤ 100) (hi : i < (m.netAt i).length) :
    ∃ x, (m.netAt i)[i]? = some x ∧ (m.at i).come x = m.at (i + 1) ∧ (m.at i).left x (m.netAt i) = m.netAt (i + 1) := by
  have hl := netAt_len m i
  have hn : m.n = m.sent.length - m.a := rfl
  rw [hl] at hi
  by_cases h : i < m.n
  · refine ⟨⟨false, m.a + i + 1, m.sent.getD (m.a + i) []⟩, ?_, ?_, ?_⟩
    · unfold Mx.netAt
      rw [List.getElem?_append_left (by rw [wait_len]; exact h)]
      exact wait_get h
    · have e1 : (m.at i).t = max m.t (m.a + i) := by unfold Mx.at; show max m.t (m.a + min i m.n) = _; omega
      have e2 : (m.at i).a = m.a := by unfold Mx.at; show (if i ≤ m.n then m.a else _) = _; rw [if_pos (by omega)]
      have e3 : (m.at (i + 1)).a = m.a := by unfold Mx.at; show (if i + 1 ≤ m.n then m.a else _) = _; rw [if_pos (by omega)]
      have e4 : (m.at (i + 1)).t = max m.t (m.a + i + 1) := by unfold Mx.at; show max m.t (m.a + min (i + 1) m.n) = _; omega
      unfold Mx.come
      rw [if_neg (by intro h; cases h)]
      show (if m.a + i + 1 = (m.at i).t + 1 then (⟨(m.at i).sent, (m.at i).a, (m.at i).t + 1⟩ : Mx) else m.at i) = m.at (i + 1)
      split
      · exact mx_ext rfl (by show (m.at i).a = _; omega) (by show (m.at i).t + 1 = _; omega)
      · exact mx_ext rfl (by omega) (by omega)
    · have e1 : (m.at i).t = max m.t (m.a + i) := by unfold Mx.at; show max m.t (m.a + min i m.n) = _; omega
      have e5 : ((m.at i).come ⟨false, m.a + i + 1, m.sent.getD (m.a + i) []⟩).t = max m.t (m.a + i + 1) := by
        unfold Mx.come
        rw [if_neg (by intro h; cases h)]
        show (if m.a + i + 1 = (m.at i).t + 1 then (⟨(m.at i).sent, (m.at i).a, (m.at i).t + 1⟩ : Mx) else m.at i).t = _
        split
        · show (m.at i).t + 1 = _; omega
        · omega
      unfold Mx.left
      rw [if_neg (by intro h; cases h), if_pos (by show m.a + i + 1 ≤ (m.at i).t + 1; omega), e5]
      unfold ackPut
      rw [if_pos (by rw [hl]; omega)]
      unfold Mx.netAt
      rw [show min (i + 1) m.n = min i m.n + 1 by omega, List.range_succ, List.map_append, ← List.append_assoc, show min i m.n = i by omega]
      rfl
  · have hj : i - m.n < m.n := by omega
    refine ⟨⟨true, max m.t (m.a + (i - m.n) + 1), []⟩, ?_, ?_, ?_⟩
    · unfold Mx.netAt
      rw [List.getElem?_append_right (by rw [wait_len]; show m.n ≤ i; omega), wait_len, List.getElem?_map, List.getElem?_range (by show i - m.n < min i m.n; omega)]
      rfl
    · unfold Mx.come
      rw [if_pos rfl]
      have e1 : (m.at i).a = if i ≤ m.n then m.a else max m.t (m.a + (i - m.n)) := rfl
      have e2 : (m.at (i + 1)).a = if i + 1 ≤ m.n then m.a else max m.t (m.a + (i + 1 - m.n)) := rfl
      have e3 : (m.at i).t = max m.t (m.a + min i m.n) := rfl
      have e4 : (m.at (i + 1)).t = max m.t (m.a + min (i + 1) m.n) := rfl
      rw [if_neg (by omega)] at e2
      refine mx_ext rfl ?_ (by show (m.at i).t = _; omega)
      show max (m.at i).a (max m.t (m.a + (i - m.n) + 1)) = _
      rw [e1, e2]
      split <;> omega
    · unfold Mx.left
      rw [if_pos rfl]
      unfold Mx.netAt
      rw [show min (i + 1) m.n = min i m.n by omega]
theorem at_end {m : Mx} {i : Nat} (ha : m.a ≤ m.t) (ht : m.t ≤ m.sent.length) (hi : ¬ i < (m.netAt i).length) (hj : i ≤ (m.netAt i).length) : (m.at i).a = m.sent.length ∧ (m.at i).t = m.sent.length := by
  rw [netAt_len] at hi hj
  have hn : m.n = m.sent.length - m.a := rfl
  have e1 : (m.at i).a = if i ≤ m.n then m.a else max m.t (m.a + (i - m.n)) := rfl
  have e3 : (m.at i).t = max m.t (m.a + min i m.n) := rfl
  have h2 : 2 * m.n ≤ i := by omega
  refine ⟨?_, by omega⟩
  rw [e1]
  split
  · omega
  · omega
theorem at_sent (m : Mx) (i : Nat) : (m.at i).sent = m.sent := rfl
theorem come_sent (m : Mx) (x : Th) : (m.come x).sent = m.sent := by
  unfold Mx.come
  split
  · rfl
  · split <;> rfl
end Lk
end Go.Proofs.Ythiclefiliedjaa

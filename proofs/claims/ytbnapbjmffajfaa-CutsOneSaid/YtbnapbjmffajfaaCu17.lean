/-
cuts: a table that is being read: what it is, and the calls on it.
-/
import Derived.Test.YtbnapbjmffajfaaCu14
namespace Go.Proofs.Ytbnapbjmffajfaa
open Go.RowKit
set_option linter.unusedSimpArgs false
set_option linter.unusedVariables false
/-- A table that is being read (block t, all its blocks at B or above); the reader k, its reading s, the bytes that are left. -/
def TR (L B k s t : Nat) (own other : Int) (W0 : World) (bs : List Nat) (cs : List Ct) (a b : Sd) (W : World) : Prop :=
  ∃ F v, Tb W B t F own other v cs a b ∧ OffB B s W0 W ∧ Rdr W k s ∧ RdB L W s bs
section
variable {L B k s t : Nat} {own other : Int} {W0 W W' : World} {bs q : List Nat} {cs : List Ct} {a b : Sd}
theorem TR.size (h : TR L B k s t own other W0 bs cs a b W) : B ≤ W.heap.size := by
  obtain ⟨F, v, T, -, -, -⟩ := h
  exact Nat.le_of_lt (Nat.lt_of_le_of_lt (T.low t T.ft).1 (T.low t T.ft).2)
theorem TR.off (h : TR L B k s t own other W0 bs cs a b W) (hs : s < B) (hO : Off s W W') (hB : RdB L W' s q) : TR L B k s t own other W0 q cs a b W' := by
  have hz := h.size
  obtain ⟨F, v, T, o, r, -⟩ := h
  exact ⟨F, v, T.keep (fun j hF => hO.block j (T.low j hF).2 (by have := (T.low j hF).1; omega)) hO.size, o.trans (OffB.ofOff hO hz), r.off hO, hB⟩
theorem TR.bad (h : TR L B k s t own other W0 bs cs a b W) (hO : Off s W W') : OffB B s W0 W' := by
  have hz := h.size
  obtain ⟨F, v, T, o, r, -⟩ := h
  exact o.trans (OffB.ofOff hO hz)
theorem TR.badB (h : TR L B k s t own other W0 bs cs a b W) (hO : OffB B s W W') : OffB B s W0 W' := by
  obtain ⟨F, v, T, o, r, -⟩ := h
  exact o.trans hO
theorem TR.below (h : TR L B k s t own other W0 bs cs a b W) (hb : Below W.heap.size W W') : TR L B k s t own other W0 bs cs a b W' := by
  have hz := h.size
  obtain ⟨F, v, T, o, r, d⟩ := h
  exact ⟨F, v, T.next hb, o.trans (OffB.ofBelow (hb.mono hz)), r.below hb, d.below hb⟩
/-- What a call gives that reads: a value, and the table is as it was. -/
def EndT {α : Type} (L B k s t : Nat) (own other : Int) (W0 : World) (cs : List Ct) (a b : Sd) (val : α → Value) (P : Except Int (α × List Nat)) (e : Ending) (W' : World) : Prop :=
  match P with
  | .ok (n, q) => e = .returned (val n) ∧ TR L B k s t own other W0 q cs a b W'
  | .error x => e = .panicked [{ v := flt s, recovered := false }] ∧ Met' W' s x ∧ OffB B s W0 W'
/-- What a call gives that reads and turns the table. -/
def EndR (L B k s t : Nat) (own other : Int) (W0 : World) (P : Except Int (List Nat × List Ct × Sd × Sd)) (e : Ending) (W' : World) : Prop :=
  match P with
  | .ok (q, cs, a, b) => e = .returned (.tuple #[]) ∧ TR L B k s t own other W0 q cs a b W'
  | .error x => e = .panicked [{ v := flt s, recovered := false }] ∧ Met' W' s x ∧ OffB B s W0 W'
theorem tr_small (h : TR L B k s t own other W0 bs cs a b W) (hs : s < B) (m : Int) (hm : m ≤ 9223372036854775807) :
    Calls Try.prog 40 #[.pointer (some ⟨k, 0, none⟩), .int .i64 m] W fun e W' => EndT L B k s t own other W0 cs a b (fun n : Nat => .int .i64 (n : Nat)) (smallP m bs) e W' := by
  have hh := h
  obtain ⟨F, v, T, o, r, d⟩ := h
  refine (rsmall_any k s bs m W r d hm).mono ?_
  rintro e W' ⟨hO, hE⟩
  unfold EndT
  cases hq : smallP m bs with
  | error x => rw [hq] at hE; exact ⟨hE.1, hE.2, hh.bad hO⟩
  | ok z => obtain ⟨n, q⟩ := z; rw [hq] at hE; exact ⟨hE.1, hh.off hs hO hE.2⟩
theorem tr_stance (h : TR L B k s t own other W0 bs cs a b W) (hs : s < B) (hL : L ≤ B) :
    Calls Try.prog 50 #[.pointer (some ⟨k, 0, none⟩)] W fun e W' => EndT L B k s t own other W0 cs a b (fun x : St => .agg x.cells.toArray) (stanceP bs) e W' := by
  have hh := h
  have hz := h.size
  obtain ⟨F, v, T, o, r, d⟩ := h
  refine (getstance_any k s bs W (Nat.le_trans hL hz) r d).mono ?_
  rintro e W' ⟨hO, hE⟩
  unfold EndT
  cases hq : stanceP bs with
  | error x => rw [hq] at hE; exact ⟨hE.1, hE.2, hh.bad hO⟩
  | ok z => obtain ⟨n, q⟩ := z; rw [hq] at hE; exact ⟨hE.1, hh.off hs hO hE.2⟩
theorem tr_said (h : TR L B k s t own other W0 bs cs a b W) (hs : s < B) (hL : L ≤ B) :
    Calls Try.prog 53 #[.pointer (some ⟨k, 0, none⟩)] W fun e W' => EndT L B k s t own other W0 cs a b (fun x : Sd => .agg x.cells.toArray) (saidP bs) e W' := by
  have hh := h
  have hz := h.size
  obtain ⟨F, v, T, o, r, d⟩ := h
  refine (getsaid_any k s bs W (Nat.le_trans hL hz) r d).mono ?_
  rintro e W' ⟨hO, hE⟩
  unfold EndT
  cases hq : saidP bs with
  | error x => rw [hq] at hE; exact ⟨hE.1, hE.2, hh.bad hO⟩
  | ok z => obtain ⟨n, q⟩ := z; rw [hq] at hE; exact ⟨hE.1, hh.off hs hO hE.2⟩
theorem tr_next (h : TR L B k s t own other W0 bs cs a b W) (hl : cs.length ≤ 100000) :
    Calls Try.prog 22 #[.pointer (some ⟨t, 0, none⟩)] W fun e W' => e = .returned (.int .i64 ((cs.length + 1 : Nat) : Int)) ∧ W = W' := by
  obtain ⟨F, v, T, -, -, -⟩ := h
  exact next_any W T hl
theorem tr_yes (h : TR L B k s t own other W0 bs cs a b W) :
    Calls Try.prog 41 #[.pointer (some ⟨k, 0, none⟩), .bool true] W fun e W' => e = .returned (.tuple #[]) ∧ W = W' := by
  obtain ⟨F, v, T, -, r, d⟩ := h
  exact rmust_yes k s bs W r d
theorem tr_not (h : TR L B k s t own other W0 bs cs a b W) :
    Calls Try.prog 41 #[.pointer (some ⟨k, 0, none⟩), .bool false] W fun e W' => e = .panicked [{ v := flt s, recovered := false }] ∧ Met' W' s 3 ∧ OffB B s W0 W' := by
  have hh := h
  obtain ⟨F, v, T, -, r, d⟩ := h
  refine (rmust_not k s bs W r d).mono ?_
  rintro e W' ⟨h1, h2, h3⟩
  exact ⟨h1, h2, hh.bad h3⟩
/-- A round that may be decided. -/
def decT (own other : Int) (cs : List Ct) (a b : Sd) : List Ct × Sd × Sd :=
  (cs ++ (won own other a b).toList, if (won own other a b).isSome then Sd.zero else a, if (won own other a b).isSome then Sd.zero else b)
/-- What is proposed and heard, as it is read: the table then, if it may be. -/
def propT (own other : Int) (cs : List Ct) (a b : Sd) (x : St) : Except Int (List Ct × Sd × Sd) :=
  if propE cs a ⟨true, x.t, x.f⟩ = 0 then .ok (decT own other cs ⟨true, ⟨true, x.t, x.f⟩⟩ b) else .error 3
def hearT (own other : Int) (cs : List Ct) (a b : Sd) (r : Int) (x : St) : Except Int (List Ct × Sd × Sd) :=
  if hearE other cs b r x = 0 then .ok (decT own other cs (if promP a x then ⟨true, St.zero⟩ else a) ⟨true, x⟩) else .error 3
/-- What a call gives that turns the table with no reading. -/
def EndD (L B k s t : Nat) (own other : Int) (W0 : World) (q : List Nat) (P : Except Int (List Ct × Sd × Sd)) (e : Ending) (W' : World) : Prop :=
  match P with
  | .ok (cs, a, b) => e = .returned (.tuple #[]) ∧ TR L B k s t own other W0 q cs a b W'
  | .error x => e = .panicked [{ v := flt s, recovered := false }] ∧ Met' W' s x ∧ OffB B s W0 W'
theorem propT_len {x : St} {cs' : List Ct} {a' b' : Sd} (h : propT own other cs a b x = .ok (cs', a', b')) : cs'.length ≤ 20 := by
  unfold propT at h
  by_cases h0 : propE cs a ⟨true, x.t, x.f⟩ = 0
  · rw [if_pos h0] at h
    have hl : ¬ 20 ≤ cs.length := by
      intro hl
      unfold propE at h0
      rw [decide_eq_true hl] at h0
      split at h0
      · cases h0
      · split at h0
        · cases h0
        · simp at h0
    unfold decT at h
    injection h with h
    injection h with h1 _
    subst h1
    rw [List.length_append]
    have : (won own other ⟨true, ⟨true, x.t, x.f⟩⟩ b).toList.length ≤ 1 := by cases won own other ⟨true, ⟨true, x.t, x.f⟩⟩ b <;> simp
    omega
  · rw [if_neg h0] at h; cases h
theorem hearT_len {x : St} {r : Int} {cs' : List Ct} {a' b' : Sd} (h : hearT own other cs a b r x = .ok (cs', a', b')) : cs'.length ≤ 20 := by
  unfold hearT at h
  by_cases h0 : hearE other cs b r x = 0
  · rw [if_pos h0] at h
    have hl : ¬ 20 ≤ cs.length := by
      intro hl
      unfold hearE at h0
      rw [decide_eq_true hl] at h0
      split at h0
      · cases h0
      · split at h0
        · cases h0
        · split at h0
          · cases h0
          · split at h0
            · cases h0
            · simp at h0
    unfold decT at h
    injection h with h
    injection h with h1 _
    subst h1
    rw [List.length_append]
    have : (won own other (if promP a x then (⟨true, St.zero⟩ : Sd) else a) ⟨true, x⟩).toList.length ≤ 1 := by cases won own other (if promP a x then (⟨true, St.zero⟩ : Sd) else a) ⟨true, x⟩ <;> simp
    omega
  · rw [if_neg h0] at h; cases h
theorem tr_dec {F : Nat → Prop} {a' b' : Sd} (hz : B ≤ W.heap.size) (o : OffB B s W0 W) (hD : DecP W B t F own other cs a' b' W') (r : Rdr W' k s) (d : RdB L W' s bs) :
    TR L B k s t own other W0 bs (decT own other cs a' b').1 (decT own other cs a' b').2.1 (decT own other cs a' b').2.2 W' := by
  obtain ⟨v', T', tn⟩ := hD
  exact ⟨_, v', T', o.trans (OffB.ofBelow tn.1), r, d⟩
theorem tr_propose (h : TR L B k s t own other W0 bs cs a b W) (ho : own ≠ 0) (hl : cs.length ≤ 100000) (hk : k < B) (hs : s < B) (hL : L ≤ B) (x : St) :
    Calls Try.prog 52 #[.pointer (some ⟨t, 0, none⟩), .pointer (some ⟨k, 0, none⟩), .agg x.cells.toArray] W fun e W' => EndD L B k s t own other W0 bs (propT own other cs a b x) e W' := by
  have hh := h
  have hz := h.size
  obtain ⟨F, v, T, o, r, d⟩ := h
  refine (mustpropose_any W T ho hl x ⟨true, x.t, x.f⟩ rfl r d hk hs hL).mono ?_
  intro e W' hM
  unfold EndD propT
  by_cases h0 : propE cs a ⟨true, x.t, x.f⟩ = 0
  · rw [if_pos h0]
    rcases hM with ⟨-, h1, h2, h3, h4⟩ | ⟨h1, -⟩
    · exact ⟨h1, tr_dec hz o h2 h3 h4⟩
    · rw [decide_eq_true h0] at h1; cases h1
  · rw [if_neg h0]
    rcases hM with ⟨h1, -⟩ | ⟨-, h1, h2, h3⟩
    · rw [decide_eq_false h0] at h1; cases h1
    · exact ⟨h1, h2, hh.badB h3⟩
theorem tr_hear (h : TR L B k s t own other W0 bs cs a b W) (ho : own ≠ 0) (hl : cs.length ≤ 100000) (hk : k < B) (hs : s < B) (hL : L ≤ B) (r : Int) (x : St) :
    Calls Try.prog 51 #[.pointer (some ⟨t, 0, none⟩), .pointer (some ⟨k, 0, none⟩), .int .i64 r, .agg x.cells.toArray] W fun e W' => EndD L B k s t own other W0 bs (hearT own other cs a b r x) e W' := by
  have hh := h
  have hz := h.size
  obtain ⟨F, v, T, o, rr, d⟩ := h
  refine (musthear_any W T ho hl r x rr d hk hs hL).mono ?_
  intro e W' hM
  unfold EndD hearT
  by_cases h0 : hearE other cs b r x = 0
  · rw [if_pos h0]
    rcases hM with ⟨-, h1, h2, h3, h4⟩ | ⟨h1, -⟩
    · exact ⟨h1, tr_dec hz o h2 h3 h4⟩
    · rw [decide_eq_true h0] at h1; cases h1
  · rw [if_neg h0]
    rcases hM with ⟨h1, -⟩ | ⟨-, h1, h2, h3⟩
    · rw [decide_eq_false h0] at h1; cases h1
    · exact ⟨h1, h2, hh.badB h3⟩
theorem TR.cells (h : TR L B k s t own other W0 bs cs a b W) : W.cell? ⟨t, 0, none⟩ = some (.int .i64 own) ∧ W.cell? ⟨t, 1, none⟩ = some (.int .i64 other) := by
  obtain ⟨F, v, T, -, -, -⟩ := h
  exact ⟨T.c0, T.c1⟩
end
end Go.Proofs.Ytbnapbjmffajfaa

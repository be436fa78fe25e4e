/-
msg: bytes there and back; Read.
-/
import Derived.Test.YtkigaclcmodjaaaMs5
namespace Go.Proofs.Ytkigaclcmodjaaa
open Go.RowKit
set_option linter.unusedSimpArgs false
set_option linter.unusedVariables false
namespace Mg
theorem eqB_vl {f g : Nat → Nat} (h : eqB f g = true) : vl f = vl g := vl_ext ((eqB_iff f g).1 h)
theorem vl_eqB {f g : Nat → Nat} (h : vl f = vl g) : eqB f g = true := (eqB_iff f g).2 (vl_inj h)
theorem lab_cellsD (l : Lab) : l.cells = [.int .u64 (l.t : Nat), .int .i64 l.nd, .int .u32 (l.n : Nat), .int .i64 l.ca, .int .i64 l.se] ++ vl l.f := by unfold Lab.cells; rfl
theorem eqL_iff (a b : Lab) : eqL a b = true ↔ a.cells = b.cells := by
  rw [lab_cellsD, lab_cellsD]
  unfold eqL
  simp only [Bool.and_eq_true, beq_iff_eq, List.cons_append, List.nil_append, List.cons.injEq, Value.int.injEq, true_and]
  constructor
  · rintro ⟨⟨⟨⟨⟨h1, h2⟩, h3⟩, h4⟩, h5⟩, h6⟩
    exact ⟨h1, h2, h3, h4, h5, eqB_vl h6⟩
  · rintro ⟨h1, h2, h3, h4, h5, h6⟩
    exact ⟨⟨⟨⟨⟨h1, h2⟩, h3⟩, h4⟩, h5⟩, vl_eqB h6⟩
theorem eqSt_iff (a b : St) : eqSt a b = true ↔ a.cells = b.cells := by
  rw [st_def, st_def]
  unfold eqSt
  simp only [Bool.and_eq_true, beq_iff_eq, List.cons_append, List.nil_append, List.cons.injEq, Value.int.injEq, Value.bool.injEq, true_and]
  constructor
  · rintro ⟨⟨h1, h2⟩, h3⟩
    exact ⟨h1, h2, eqB_vl h3⟩
  · rintro ⟨h1, h2, h3⟩
    exact ⟨⟨h1, h2⟩, vl_eqB h3⟩
theorem sameO_iff (a b : OpR) : sameO a b = true ↔ a.cells = b.cells := by
  constructor
  · intro h; rw [sameO_eq h]
  · intro h
    rw [op_cells, op_cells] at h
    simp only [List.cons.injEq, Value.int.injEq, Value.float.injEq, true_and, and_true] at h
    obtain ⟨h1, h2, h3, h4⟩ := h
    have : a = b := by cases a; cases b; simp only [OpR.mk.injEq] at *; exact ⟨h1, h2, h3, h4⟩
    rw [this, sameO_self]
theorem sameE_iff (a b : Ev) : sameE a b = true ↔ a.cells = b.cells := by
  rw [ev_def, ev_def]
  unfold sameE
  rw [Bool.and_eq_true, eqL_iff, sameO_iff]
  constructor
  · rintro ⟨h1, h2⟩; rw [h1, h2]
  · intro h; exact List.append_inj h (by rw [lab_len, lab_len])
theorem sameM_iff (a b : Ms) : sameM a b = true ↔ a.cells = b.cells := by
  rw [ms_def, ms_def]
  unfold sameM eqM
  simp only [Bool.and_eq_true, beq_iff_eq, eqL_iff, eqSt_iff, sameE_iff]
  constructor
  · rintro ⟨hx, ⟨⟨⟨⟨⟨h1, h2⟩, h3⟩, h4⟩, h5⟩, h6⟩, h7⟩
    unfold Ms.hd
    rw [hx, h1, h2, h3, h4, h5, h6, h7]
  · intro h
    obtain ⟨h, hs⟩ := List.append_inj h (by simp only [List.length_append, hd_len, lab_len, ev_len])
    obtain ⟨h, hx⟩ := List.append_inj h (by simp only [List.length_append, hd_len, lab_len])
    obtain ⟨h, hl⟩ := List.append_inj h (by simp only [hd_len])
    unfold Ms.hd at h
    simp only [List.cons.injEq, Value.int.injEq, true_and, and_true] at h
    obtain ⟨h1, h2, h3, h4, h5⟩ := h
    exact ⟨hx, ⟨⟨⟨⟨⟨h1, h2⟩, h3⟩, h4⟩, h5⟩, hl⟩, hs⟩
theorem ms_cells_of {m n : Ms} (h1 : m.hd = n.hd) (h2 : m.l.cells = n.l.cells) (h3 : m.x.cells = n.x.cells) (h4 : m.s.cells = n.s.cells) : m.cells = n.cells := by rw [ms_def, ms_def, h1, h2, h3, h4]
/-- A stance, a message as they are read. -/
def asSt (s : St) : St := if s.h then ⟨true, s.t, lv (trimV s.f)⟩ else St.zero
def asM (m : Ms) : Ms := ⟨m.k, if hse m.k then m.se else 0, if hco m.k then m.co else 0, if hst m.k then m.ca else 0, if hst m.k then m.ro else 0, if hl m.k then asRead m.l else Lab.zero, if hev m.k then asReadE m.x else Ev.zero, if hst m.k then asSt m.s else St.zero⟩
theorem eqB_zero {f : Nat → Nat} (h : eqB f (fun _ => 0) = true) : vl f = vl (fun _ => 0) := eqB_vl h
theorem asSt_cells {s : St} (h : rightS s = true) : (asSt s).cells = s.cells := by
  unfold asSt
  cases hh : s.h with
  | true => rw [if_pos rfl, st_def, st_def, hh, vl_ext (lv_trim s.f)]
  | false =>
    unfold rightS at h
    rw [hh] at h
    simp only [Bool.false_eq_true, if_false, Bool.and_eq_true, decide_eq_true_eq] at h
    rw [if_neg (by simp), st_def, st_def, hh, h.1, eqB_vl h.2]
    rfl
theorem rightS_cells {a b : St} (h : a.cells = b.cells) : rightS a = rightS b := by
  have h2 := (eqSt_iff a b).2 h
  unfold eqSt at h2
  simp only [Bool.and_eq_true, beq_iff_eq] at h2
  obtain ⟨⟨h3, h4⟩, h5⟩ := h2
  have h6 := (eqB_iff _ _).1 h5
  have h7 : maxK a.f 11 = maxK b.f 11 := by
    have : ∀ k, k < 12 → maxK a.f k = maxK b.f k := by
      intro k
      induction k with
      | zero => intro _; exact h6 0 (by omega)
      | succ k ih => intro hk; unfold maxK; rw [ih (by omega), h6 (k + 1) hk]
    exact this 11 (by omega)
  have h8 : eqB a.f (fun _ => 0) = eqB b.f (fun _ => 0) := by
    rw [Bool.eq_iff_iff, eqB_iff, eqB_iff]
    exact ⟨fun h i hi => (h6 i hi).symm.trans (h i hi), fun h i hi => (h6 i hi).trans (h i hi)⟩
  have h9 : a.t = b.t := by omega
  unfold rightS
  rw [h3, h9, h7, h8]
theorem asM_parts (m : Ms) (hr : bodyM m = true) : (asM m).cells = (partsM m).cells := by
  unfold asM partsM
  refine ms_cells_of rfl ?_ ?_ ?_
  · dsimp only
    split
    · exact (asRead_same m.l).2.2
    · rfl
  · dsimp only
    split
    · exact (asReadE_same m.x).2.2
    · rfl
  · dsimp only
    split
    · rename_i h
      refine asSt_cells ?_
      unfold bodyM at hr
      rcases kd_any m.k with ⟨_, h1, h2, h3, h4, h5⟩ | ⟨_, h1, h2, h3, h4, h5⟩ | ⟨_, h1, h2, h3, h4, h5⟩ | ⟨_, h1, h2, h3, h4, h5⟩ | ⟨_, h1, h2, h3, h4, h5⟩ | ⟨_, h1, h2, h3, h4, h5⟩
      all_goals rw [h4] at h
      all_goals first | (cases h; done) | skip
      rw [h1, h2, h3, h4] at hr
      simp only [Bool.false_eq_true, if_false, if_true, Bool.and_eq_true] at hr
      exact hr.2
    · rfl
theorem sameM_parts {m : Ms} (hr : rightM m = true) : m.cells = (partsM m).cells := by
  unfold rightM at hr
  rw [Bool.and_eq_true] at hr
  exact (sameM_iff _ _).1 hr.1
theorem asM_cells {m : Ms} (hr : rightM m = true) : (asM m).cells = m.cells := (asM_parts m (body_of hr)).trans (sameM_parts hr).symm
theorem partsM_asM (m : Ms) : partsM (asM m) = asM m := by
  unfold partsM asM
  dsimp only
  cases hl m.k <;> cases hev m.k <;> cases hse m.k <;> cases hst m.k <;> cases hco m.k <;> rfl
theorem bodyM_asM {m : Ms} (hr : bodyM m = true) : bodyM (asM m) = true := by
  unfold bodyM at hr ⊢
  have hk : (asM m).k = m.k := rfl
  rw [hk]
  rcases kd_any m.k with ⟨_, h1, h2, h3, h4, h5⟩ | ⟨_, h1, h2, h3, h4, h5⟩ | ⟨h0, h1, h2, h3, h4, h5⟩ | ⟨h0, h1, h2, h3, h4, h5⟩ | ⟨_, h1, h2, h3, h4, h5⟩ | ⟨_, h1, h2, h3, h4, h5⟩
  all_goals rw [h1, h2, h3, h4] at hr ⊢
  all_goals simp only [Bool.false_eq_true, if_false, if_true, Bool.and_eq_true] at hr ⊢
  · show rightL (asM m).l = true
    unfold asM
    dsimp only
    rw [h1, if_pos rfl, (asRead_same m.l).1]
    exact hr
  · show rightE (asM m).x = true
    unfold asM
    dsimp only
    rw [h2, if_pos rfl, (asReadE_same m.x).1]
    exact hr
  · unfold asM
    dsimp only
    rw [h3, h5, if_pos rfl, if_neg (by simp)]
    exact ⟨hr.1, by decide⟩
  · unfold asM
    dsimp only
    rw [h3, h5, if_pos rfl, if_pos rfl]
    exact hr
  · unfold asM
    dsimp only
    rw [h4, if_pos rfl, if_pos rfl, if_pos rfl]
    exact ⟨hr.1, by rw [rightS_cells (asSt_cells hr.2)]; exact hr.2⟩
theorem rightM_asM {m : Ms} (hr : rightM m = true) : rightM (asM m) = true := by
  unfold rightM
  rw [partsM_asM, (sameM_iff _ _).2 rfl, bodyM_asM (body_of hr)]
  rfl
theorem back_mk {m : Ms} (hr : rightM m = true) : Back (mkM m) [] m := ⟨fun t => by unfold mkM; rw [if_pos hr]; rfl, fun k hk => by simp at hk⟩
theorem pure_back {α : Type} (x : α) : Back (pureP x) [] x := ⟨fun t => rfl, fun k hk => by simp at hk⟩
theorem back_nil {α : Type} {P : List Nat → Except Int (α × List Nat)} {E : List Nat} {x : α} (h : Back P (E ++ []) x) : Back P E x := by rwa [List.append_nil] at h
theorem st_back {s : St} (hr : rightS s = true) (ho : St.Ok s) : Back stP (encSt s) (asSt s) := by
  rw [stP_def]
  unfold encSt asSt
  cases hh : s.h with
  | false =>
    rw [if_neg (by simp), if_neg (by simp)]
    refine back_nil ((small_back 1 0 (by decide) (by decide)).bind ?_)
    rw [if_pos rfl]
    exact pure_back _
  | true =>
    rw [if_pos rfl, if_pos rfl, List.append_assoc]
    refine (small_back 1 1 (by decide) (by decide)).bind ?_
    rw [if_neg (by decide)]
    refine (num_back s.t ho.t).bind ?_
    exact back_nil ((vector_back s.f ho.f).bind (pure_back _))
theorem withinN {n a b : Int} (h : withinB n a b = true) : a ≤ n ∧ n ≤ b := withinB_iff.1 h
theorem kind_nat {m : Ms} (hr : rightM m = true) : ∃ n : Nat, m.k = (n : Nat) ∧ 1 ≤ n ∧ n ≤ 10 := by
  have hb := body_of hr
  refine ⟨m.k.toNat, ?_⟩
  rcases kd_any m.k with ⟨h0, _⟩ | ⟨h0, _⟩ | ⟨h0, _⟩ | ⟨h0, _⟩ | ⟨h0, _⟩ | ⟨h0, h1, h2, h3, h4, h5⟩
  · omega
  · omega
  · omega
  · omega
  · omega
  · unfold bodyM at hb
    rw [h1, h2, h3, h4] at hb
    exact absurd hb (by simp)
theorem kind_back {m : Ms} (hr : rightM m = true) (ho : Ms.Ok m) : Back (kindP m.k) ((if hl m.k then encL m.l else []) ++ ((if hev m.k then encE m.x else []) ++ ((if hse m.k then enc (wordN m.se) else []) ++ ((if hst m.k then enc (wordN m.ca) ++ (enc (wordN m.ro) ++ encSt m.s) else []) ++ (if hco m.k then enc (wordN m.co) else []))))) (asM m) := by
  have hb := body_of hr
  have hm := back_mk (rightM_asM hr)
  unfold asM at hm ⊢
  unfold bodyM at hb
  unfold kindP
  rcases kd_any m.k with ⟨h0, h1, h2, h3, h4, h5⟩ | ⟨h0, h1, h2, h3, h4, h5⟩ | ⟨h0, h1, h2, h3, h4, h5⟩ | ⟨h0, h1, h2, h3, h4, h5⟩ | ⟨h0, h1, h2, h3, h4, h5⟩ | ⟨h0, h1, h2, h3, h4, h5⟩
  all_goals rw [h1, h2, h3, h4] at hb
  all_goals simp only [Bool.false_eq_true, if_false, if_true, Bool.and_eq_true] at hb
  all_goals rw [h1, h2, h3, h4, h5] at hm ⊢
  all_goals simp only [Bool.false_eq_true, if_false, if_true, List.append_nil, List.nil_append] at hm ⊢
  · exact back_nil ((lab_back hb ho.l).bind hm)
  · exact back_nil ((ev_back hb ho.x ho.p).bind hm)
  · obtain ⟨q1, q2⟩ := withinN hb.1
    obtain ⟨a, ha⟩ : ∃ a : Nat, m.se = (a : Nat) := ⟨m.se.toNat, by omega⟩
    rw [ha] at hm q1 q2 ⊢
    rw [wordN_nat a (by omega)]
    exact back_nil ((small_back 12 a (by omega) (by omega)).bind hm)
  · obtain ⟨q1, q2⟩ := withinN hb.1
    obtain ⟨q3, q4⟩ := withinN hb.2
    obtain ⟨a, ha⟩ : ∃ a : Nat, m.se = (a : Nat) := ⟨m.se.toNat, by omega⟩
    obtain ⟨c, hc⟩ : ∃ c : Nat, m.co = (c : Nat) := ⟨m.co.toNat, by omega⟩
    rw [ha, hc] at hm ⊢
    rw [ha] at q1 q2
    rw [hc] at q3 q4
    rw [wordN_nat a (by omega), wordN_nat c (by omega)]
    exact (small_back 12 a (by omega) (by omega)).bind (back_nil ((small_back 200 c (by omega) (by omega)).bind hm))
  · obtain ⟨⟨q1, q2⟩, q5⟩ := hb
    obtain ⟨q1, q2'⟩ := withinN q1
    obtain ⟨q3, q4⟩ := withinN q2
    obtain ⟨a, ha⟩ : ∃ a : Nat, m.ca = (a : Nat) := ⟨m.ca.toNat, by omega⟩
    obtain ⟨c, hc⟩ : ∃ c : Nat, m.ro = (c : Nat) := ⟨m.ro.toNat, by omega⟩
    rw [ha, hc] at hm ⊢
    rw [ha] at q1 q2'
    rw [hc] at q3 q4
    rw [wordN_nat a (by omega), wordN_nat c (by omega)]
    exact (small_back 12 a (by omega) (by omega)).bind ((small_back 21 c (by omega) (by omega)).bind (back_nil ((st_back q5 ho.s).bind hm)))
theorem msg_back {m : Ms} (hr : rightM m = true) (ho : Ms.Ok m) : Back msgP (encM m) (asM m) := by
  obtain ⟨n, hn, h1, h2⟩ := kind_nat hr
  have hk := kind_back hr ho
  have e := hn
  rw [msgP_def]
  unfold encM
  rw [hn] at hk ⊢
  rw [wordN_nat n (by omega)]
  exact (small_back 10 n (by omega) (by omega)).bind hk
theorem msg_yes {m : Ms} (hr : rightM m = true) (ho : Ms.Ok m) : msgP (encM m) = .ok (asM m, []) := by
  have := (msg_back hr ho).1 []
  rwa [List.append_nil] at this
theorem msg_cut {m : Ms} (hr : rightM m = true) (ho : Ms.Ok m) {k : Nat} (hk : k < (encM m).length) : ∀ x, msgP ((encM m).take k) ≠ .ok (x, []) := fun x e => by
  rw [(msg_back hr ho).2 k hk] at e; cases e
theorem st_ok {bs t : List Nat} {s : St} (hb : ∀ x ∈ bs, x < 256) (h : stP bs = .ok (s, t)) : bs = encSt s ++ t ∧ St.Ok s := by
  rw [stP_def] at h
  obtain ⟨n, b1, q1, h⟩ := bindP_inv h
  have e1 := small_one hb q1
  have l1 := (small_ok q1).2
  split at h
  · rename_i h0
    subst h0
    unfold pureP at h
    cases h
    refine ⟨?_, ⟨by decide, fun i => by show (0 : Nat) < _; decide⟩⟩
    show bs = enc 0 ++ t
    exact e1
  · rename_i h0
    have hb1 := lt_tail e1 hb
    obtain ⟨v, b2, q2, h⟩ := bindP_inv h
    obtain ⟨l, b3, q3, h⟩ := bindP_inv h
    unfold pureP at h
    cases h
    have e2 := num_one hb1 q2
    have hb2 := lt_tail e2 hb1
    obtain ⟨e3, e4, e5, e6⟩ := vector_one hb2 q3
    refine ⟨?_, ⟨numP_lt _ _ _ _ _ q2, e5⟩⟩
    show bs = (enc 1 ++ enc v ++ encV (lv l)) ++ t
    obtain rfl : n = 1 := by omega
    rw [e1, e2, e3]
    simp [List.append_assoc]
theorem ok_zero (k : Int) : Ms.Ok (zM k) := ⟨fun i => by show (0 : Nat) < _; decide, fun i => by show (0 : Nat) < _; decide, by show (0 : Nat) < _; decide, ⟨by show (0 : Nat) < _; decide, fun i => by show (0 : Nat) < _; decide⟩⟩
theorem mkM_ok {n m : Ms} {b t : List Nat} (h : mkM n b = .ok (m, t)) : m = n ∧ t = b ∧ rightM n = true := by
  unfold mkM at h
  split at h
  · rename_i hr; cases h; exact ⟨rfl, rfl, hr⟩
  · cases h
theorem kind_ok {n : Nat} {bs t : List Nat} {m : Ms} (hb : ∀ x ∈ bs, x < 256) (hn : n ≤ 10) (h : kindP (n : Nat) bs = .ok (m, t)) : enc n ++ bs = encM m ++ t ∧ rightM m = true ∧ Ms.Ok m := by
  unfold kindP at h
  have hw := wordN_nat n (by omega)
  rcases kd_any (n : Nat) with ⟨h0, h1, h2, h3, h4, h5⟩ | ⟨h0, h1, h2, h3, h4, h5⟩ | ⟨h0, h1, h2, h3, h4, h5⟩ | ⟨h0, h1, h2, h3, h4, h5⟩ | ⟨h0, h1, h2, h3, h4, h5⟩ | ⟨h0, h1, h2, h3, h4, h5⟩
  all_goals rw [h1] at h
  all_goals (try rw [h2] at h)
  all_goals (try rw [h3] at h)
  all_goals (try rw [h4] at h)
  all_goals (try rw [h5] at h)
  all_goals simp only [Bool.false_eq_true, if_false, if_true] at h
  · obtain ⟨l, b1, q1, h⟩ := bindP_inv h
    obtain ⟨rfl, rfl, hr⟩ := mkM_ok h
    obtain ⟨e1, _, e3, _⟩ := lab_ok hb q1
    refine ⟨?_, hr, { ok_zero (n : Nat) with l := e3 }⟩
    unfold encM zM
    dsimp only
    rw [h1, h2, h3, h4, h5, hw, e1]
    simp [List.append_assoc]
  · obtain ⟨x, b1, q1, h⟩ := bindP_inv h
    obtain ⟨rfl, rfl, hr⟩ := mkM_ok h
    obtain ⟨e1, _, e3, e4⟩ := ev_ok hb q1
    refine ⟨?_, hr, { ok_zero (n : Nat) with x := e3, p := e4 }⟩
    unfold encM zM
    dsimp only
    rw [h1, h2, h3, h4, h5, hw, e1]
    simp [List.append_assoc]
  · obtain ⟨x, b1, q1, h⟩ := bindP_inv h
    obtain ⟨rfl, rfl, hr⟩ := mkM_ok h
    have e1 := small_one hb q1
    have l1 := (small_ok q1).2
    refine ⟨?_, hr, { ok_zero (n : Nat) with }⟩
    unfold encM zM
    dsimp only
    rw [h1, h2, h3, h4, h5, hw, wordN_nat x (by omega), e1]
    simp [List.append_assoc]
  · obtain ⟨x, b1, q1, h⟩ := bindP_inv h
    obtain ⟨y, b2, q2, h⟩ := bindP_inv h
    obtain ⟨rfl, rfl, hr⟩ := mkM_ok h
    have e1 := small_one hb q1
    have l1 := (small_ok q1).2
    have e2 := small_one (lt_tail e1 hb) q2
    have l2 := (small_ok q2).2
    refine ⟨?_, hr, { ok_zero (n : Nat) with }⟩
    unfold encM zM
    dsimp only
    rw [h1, h2, h3, h4, h5, hw, wordN_nat x (by omega), wordN_nat y (by omega), e1, e2]
    simp [List.append_assoc]
  · obtain ⟨x, b1, q1, h⟩ := bindP_inv h
    obtain ⟨y, b2, q2, h⟩ := bindP_inv h
    obtain ⟨z, b3, q3, h⟩ := bindP_inv h
    obtain ⟨rfl, rfl, hr⟩ := mkM_ok h
    have e1 := small_one hb q1
    have l1 := (small_ok q1).2
    have hb1 := lt_tail e1 hb
    have e2 := small_one hb1 q2
    have l2 := (small_ok q2).2
    obtain ⟨e3, e4⟩ := st_ok (lt_tail e2 hb1) q3
    refine ⟨?_, hr, { ok_zero (n : Nat) with s := e4 }⟩
    unfold encM zM
    dsimp only
    rw [h1, h2, h3, h4, h5, hw, wordN_nat x (by omega), wordN_nat y (by omega), e1, e2, e3]
    simp [List.append_assoc]
  · obtain ⟨rfl, rfl, hr⟩ := mkM_ok h
    refine ⟨?_, hr, ok_zero (n : Nat)⟩
    unfold encM zM
    dsimp only
    rw [h1, h2, h3, h4, h5, hw]
    simp [List.append_assoc]
theorem msg_ok {bs t : List Nat} {m : Ms} (hb : ∀ x ∈ bs, x < 256) (h : msgP bs = .ok (m, t)) : bs = encM m ++ t ∧ rightM m = true ∧ Ms.Ok m := by
  rw [msgP_def] at h
  obtain ⟨n, b1, q1, h⟩ := bindP_inv h
  have e1 := small_one hb q1
  have l1 := (small_ok q1).2
  obtain ⟨h1, h2, h3⟩ := kind_ok (lt_tail e1 hb) (by omega) h
  exact ⟨e1.trans h1, h2, h3⟩
theorem stP_ne (bs : List Nat) (x : Int) (h : stP bs = .error x) : x ≠ 0 := by
  rw [stP_def] at h
  refine bindP_ne (fun _ _ => smallP_ne) (fun n b y hy => ?_) bs x h
  split at hy
  · cases hy
  · exact bindP_ne (fun b y => numP_err b true 0 y) (fun _ b y hy => bindP_ne vectorP_ne (fun _ _ _ e => by cases e) b y hy) b y hy
theorem mkM_ne (m : Ms) (b : List Nat) (x : Int) (h : mkM m b = .error x) : x ≠ 0 := by
  unfold mkM at h
  split at h
  · cases h
  · cases h; decide
theorem kindP_ne (k : Int) (b : List Nat) (x : Int) (h : kindP k b = .error x) : x ≠ 0 := by
  unfold kindP at h
  split at h
  · exact bindP_ne labP_ne (fun _ b y hy => mkM_ne _ b y hy) b x h
  · split at h
    · exact bindP_ne evP_ne (fun _ b y hy => mkM_ne _ b y hy) b x h
    · split at h
      · refine bindP_ne (fun _ _ => smallP_ne) (fun _ b y hy => ?_) b x h
        split at hy
        · exact bindP_ne (fun _ _ => smallP_ne) (fun _ b y hy => mkM_ne _ b y hy) b y hy
        · exact mkM_ne _ b y hy
      · split at h
        · exact bindP_ne (fun _ _ => smallP_ne) (fun _ b y hy => bindP_ne (fun _ _ => smallP_ne) (fun _ b y hy => bindP_ne stP_ne (fun _ b y hy => mkM_ne _ b y hy) b y hy) b y hy) b x h
        · exact mkM_ne _ b x h
theorem msgP_ne (bs : List Nat) (x : Int) (h : msgP bs = .error x) : x ≠ 0 := by
  rw [msgP_def] at h
  exact bindP_ne (fun _ _ => smallP_ne) (fun n b y hy => kindP_ne _ b y hy) bs x h
abbrev zmsL : List Value := [.int .i64 0, .int .i64 0, .int .i64 0, .int .i64 0, .int .i64 0, .int .u64 0, .int .i64 0, .int .u32 0, .int .i64 0, .int .i64 0, .int .u32 0, .int .u32 0, .int .u32 0, .int .u32 0, .int .u32 0, .int .u32 0, .int .u32 0, .int .u32 0, .int .u32 0, .int .u32 0, .int .u32 0, .int .u32 0, .int .u64 0, .int .i64 0, .int .u32 0, .int .i64 0, .int .i64 0, .int .u32 0, .int .u32 0, .int .u32 0, .int .u32 0, .int .u32 0, .int .u32 0, .int .u32 0, .int .u32 0, .int .u32 0, .int .u32 0, .int .u32 0, .int .u32 0, .int .i64 0, .int .i64 0, .int .i64 0, .float .f64 0, .bool false, .int .u64 0, .int .u32 0, .int .u32 0, .int .u32 0, .int .u32 0, .int .u32 0, .int .u32 0, .int .u32 0, .int .u32 0, .int .u32 0, .int .u32 0, .int .u32 0, .int .u32 0]
abbrev zmsA : Array Value := zmsL.toArray
theorem zms_siz (x : Ms) : (zmsA : Array Value).size = x.cells.toArray.size := show 57 = x.cells.toArray.size by rw [List.size_toArray, ms_len]
variable {L : Nat}
set_option maxRecDepth 20000 in
set_option maxHeartbeats 8000000 in
theorem msread1_any (k s c : Nat) (bs : List Nat) (W : World) (hL : L ≤ W.heap.size) (hr : Rdr W k s) (h : RdB L W s bs) (hby : ∀ x ∈ bs, x < 256) (hc : Blk W c 50 zmsA) (hcs : c ≠ s) (hLc : L ≤ c) :
    Calls Try.prog 37 #[.pointer (some ⟨k, 0, none⟩), .pointer (some ⟨c, 0, none⟩)] W fun e W2 => match msgP bs with
      | .ok (x, t) => e = .returned (.tuple #[]) ∧ RdB L W2 s t ∧ ∃ W1, Off s W W1 ∧ W2 = W1.setRow c x.cells.toArray ∧ Blk W2 c 50 x.cells.toArray
      | .error x => e = .panicked [{ v := flt s, recovered := false }] ∧ Met' W2 s x ∧ Off s W W2 := by
  have HG := Lib.hid (msget_any k s bs W hL hr h hby)
  obtain ⟨R, hR⟩ : ∃ R, R = msgP bs := ⟨_, rfl⟩
  rw [← hR] at HG ⊢
  clear hR h hr hby
  match R with
  | .error x =>
    go_enter Try.func37, Try.ntmps37
    go_wp2_with (go_at_call 38; refine HG.out.mono ?_; rintro e w1 ⟨hO, rfl, hM⟩)
    exact ⟨rfl, rfl, hM, hO⟩
  | .ok (x, t) =>
    go_enter Try.func37, Try.ntmps37
    go_wp2_with (first | (go_at_call 38; refine HG.out.mono ?_; rintro e w1 ⟨hO, rfl, hB⟩; have HO := Lib.hid hO; have HB := Lib.hid hB; have bc := hO.blk hc hcs; clear hO hB) | (refine wpList_store_blk rfl 50 _ _ rfl c 50 _ x.cells.toArray rfl rfl bc (msinfoA _) (zms_siz x) (ms_one x) ?_; intro hrow))
    have hf : ∀ j, j ≠ c → (w1.setRow c x.cells.toArray).heap[j]? = w1.heap[j]? := fun j hj => setRow_other w1 c j _ hj
    have hz : (w1.setRow c x.cells.toArray).heap.size = w1.heap.size := by simp
    exact ⟨rfl, .tuple #[], by simp [results, Try.results37, go_sem], rfl, HB.out.turn (Nat.le_of_eq hz.symm) hf hcs hLc, w1, HO.out, rfl, hrow⟩

/-- Two boxes of noughts. -/
def twoM (W : World) : World := (W.alloc (.cells zmsA 50)).alloc (.cells zmsA 50)
theorem twoM_size (W : World) : (twoM W).heap.size = W.heap.size + 2 := by simp [twoM]
theorem twoM_below (W : World) : Below W.heap.size W (twoM W) := ((Below.refl _ W).alloc (Nat.le_refl _) _).alloc (by simp) _
/-- What an event's read leaves. -/
def MsRead (bs : List Nat) (W : World) (r : Except Int (List Nat)) (W' : World) : Prop :=
  (match msgP bs with | .ok (l, t) => r = .ok t ∧ Blk W' (W.heap.size + 1) 50 l.cells.toArray | .error x => r = .error x) ∧ Blk W' W.heap.size 50 zmsA ∧ Below W.heap.size W W'

set_option maxRecDepth 20000 in
theorem msread_call (A : Option Addr) (n cp : Nat) (W : World) (bs : List Nat) (hn : bs.length = n) (hnc : n ≤ cp) (hby : ∀ x ∈ bs, x < 256) (hbs : ByR W A bs) :
    Calls Try.prog 36 #[.slice A n cp, .func (.func 37) #[] #[.pointer (some ⟨W.heap.size + 1, 0, none⟩)]] (twoM W) fun e W' => ∃ r, e = .returned (.int .i64 (readE r)) ∧ MsRead bs W r W' := by
  have hb0 := twoM_below W
  have hsz := twoM_size W
  have hg0 : Blk (twoM W) W.heap.size 50 zmsA := (Blk.new W 50 zmsA).alloc _
  have hc0 : Blk (twoM W) (W.heap.size + 1) 50 zmsA := Blk.new' (by simp)
  refine (read_any4 (L := W.heap.size) A n cp 37 #[.pointer (some ⟨W.heap.size + 1, 0, none⟩)] (twoM W) bs (fun r W2 => MsRead bs W r W2)
    (fun args w => run_enter Try.func37 (by kernel_rfl) (by kernel_rfl) args w) hn hnc (by omega) ?_ ?_).mono ?_
  · refine hbs.imp id ?_
    rintro ⟨b, p, h1, h2, h3⟩
    exact ⟨b, p, h1, h2, fun i x hx => (hb0.cell (p := ⟨b, p + i, none⟩) h2).trans (h3 i x hx)⟩
  · intro W1 k s hb hs hk hs1 h4 _ hR hB
    have hg1 := hg0.next hb
    have hc1 := hc0.next hb
    refine (msread1_any k s (W.heap.size + 1) bs W1 (by omega) hR hB hby hc1 (by omega) (by omega)).mono ?_
    intro e W2 h
    have hne := msgP_ne bs
    unfold Fine MsRead
    cases hq : msgP bs with
    | error x =>
      rw [hq] at h
      obtain ⟨rfl, hM, hO⟩ := h
      refine ⟨fun b _ h6 h7 => hO.block b h6 h7, Or.inr ⟨x, hne x hq, rfl, hM, rfl, hO.blk hg1 (by omega), ?_⟩⟩
      exact hb0.trans ((hb.mono (by omega)).trans (hO.belowB (by omega) (by omega)))
    | ok q =>
      obtain ⟨l, t⟩ := q
      rw [hq] at h
      obtain ⟨rfl, hB2, w1, hO, rfl, hcb⟩ := h
      have hf : ∀ j, j ≠ W.heap.size + 1 → (w1.setRow (W.heap.size + 1) l.cells.toArray).heap[j]? = w1.heap[j]? := fun j hj => setRow_other w1 _ j _ hj
      refine ⟨fun b h5 h6 h7 => (hf b (by omega)).trans (hO.block b h6 h7), Or.inl ⟨t, rfl, hB2, ⟨rfl, hcb⟩, (hO.blk hg1 (by omega)).farRow (by omega) _, ?_⟩⟩
      exact below_setRow (hb0.trans ((hb.mono (by omega)).trans (hO.belowB (by omega) (by omega)))) (by omega) _
  · rintro e W' ⟨r, W2, hY, he, hb3, _⟩
    refine ⟨r, he, ?_⟩
    unfold MsRead at hY ⊢
    refine ⟨?_, hY.2.1.below hb3 (by omega), hY.2.2.trans (hb3.mono (by omega))⟩
    have h1 := hY.1
    cases hq : msgP bs with
    | error x => rw [hq] at h1; exact h1
    | ok q => obtain ⟨l, t⟩ := q; rw [hq] at h1; exact ⟨h1.1, h1.2.below hb3 (by omega)⟩

theorem zms_sz : (Try.prog.info? 50).map (·.size) = some (zmsA : Array Value).size := by kernel_rfl
theorem zms_one : (zmsA : Array Value).all (·.oneCell') = true := by simp [Value.oneCell']
theorem zms_info : (Try.prog.info? 50).map (·.size) = some (List.length (zmsL : List Value)) := by kernel_rfl

section
variable (A : Option Addr) (n cp : Nat) (W : World) (bs : List Nat) (hn : bs.length = n) (hnc : n ≤ cp) (hby : ∀ x ∈ bs, x < 256) (hbs : ByR W A bs)
include hn hnc hby hbs
set_option maxRecDepth 20000 in
set_option maxHeartbeats 4000000 in
theorem msread_yes (l : Ms) (h : msgP bs = .ok (l, [])) :
    Calls Try.prog 20 #[.slice A n cp] W fun e W' => e = .returned (.tuple #[.agg l.cells.toArray, .int .i64 0]) ∧ Below W.heap.size W W' := by
  have HC := Lib.hid (msread_call A n cp W bs hn hnc hby hbs)
  have hmf : ∀ (fn : Fn) (first cap : Array Value) (w : World), (Instr.makeFunc fn first cap).run Try.prog w = .ok (.func fn first cap) w := fun _ _ _ _ => rfl
  have HP := Lib.hid h
  clear hn hnc hbs h hby
  go_enter Try.func20, Try.ntmps20
  go_wp2_with (first | (refine wpList_load_midg (by rfl) 50 _ rfl _ _ rfl (Ms.cells ?_) _ ?_ Try.underlying50 rfl (msinfo _) ?_; rotate_left; (focus assumption)) | (refine wpList_store_blk rfl 50 _ _ rfl W.heap.size 50 _ l.cells.toArray rfl rfl hg (msinfoA _) (zms_siz l) (ms_one l) ?_; intro hrow) | (go_at_call 36; refine HC.out.mono ?_; rintro e W1 ⟨r, rfl, hR⟩; unfold MsRead at hR; rw [HP.out] at hR; obtain ⟨⟨rfl, hc⟩, hg, hb⟩ := hR; have rgl := hc.range; have HB := Lib.hid hb; clear hb; rw [show readE (.ok []) = 0 from rfl]))
  refine bodyPost_row2 (t := 50) l.cells (.int .i64 0) rfl rfl rfl rfl Try.underlying50 rfl (msinfo l) hrow ⟨rfl, below_setRow HB.out (Nat.le_refl _) _⟩
set_option maxRecDepth 20000 in
set_option maxHeartbeats 4000000 in
theorem msread_no (h : ∀ l, msgP bs ≠ .ok (l, [])) :
    Calls Try.prog 20 #[.slice A n cp] W fun e W' => e = .returned (.tuple #[.agg zmsA, .int .i64 3]) ∧ Below W.heap.size W W' := by
  have HC := Lib.hid (msread_call A n cp W bs hn hnc hby hbs)
  have hmf : ∀ (fn : Fn) (first cap : Array Value) (w : World), (Instr.makeFunc fn first cap).run Try.prog w = .ok (.func fn first cap) w := fun _ _ _ _ => rfl
  have HP := Lib.hid (show ∀ r W', MsRead bs W r W' → ∃ z : Int, readE r = z ∧ decide (z = 0) = false from fun r W' hR => by
    have h1 := hR.1
    refine ⟨readE r, rfl, decide_eq_false ?_⟩
    cases hq : msgP bs with
    | error x => rw [hq] at h1; subst h1; exact msgP_ne bs x hq
    | ok q =>
      obtain ⟨l, t⟩ := q
      rw [hq] at h1
      obtain ⟨rfl, _⟩ := h1
      cases t with
      | nil => exact absurd hq (h l)
      | cons a t => unfold readE; simp)
  clear hn hnc hbs h hby
  go_enter Try.func20, Try.ntmps20
  go_wp2_with fail
  refine HC.out.mono ?_
  rintro e W1 ⟨r, rfl, hR⟩
  obtain ⟨z, hz, hz0⟩ := HP.out r W1 hR
  obtain ⟨_, hg, hb⟩ := hR
  have HB := Lib.hid hb
  have hz2 : z ≠ 0 := by simpa using hz0
  have hz1 : (z != 0) = true := by simpa using hz2
  have hz3 : (z == 0) = false := by simpa using hz2
  rw [hz]
  clear hb hz hz0 HP HC
  go_wp2_with (refine wpList_store_blk rfl 50 _ _ rfl W.heap.size 50 _ zmsA rfl rfl hg zms_sz rfl zms_one ?_; intro hrow)
  refine bodyPost_row2 (t := 50) zmsL (.int .i64 3) rfl rfl rfl rfl Try.underlying50 rfl zms_info hrow ⟨rfl, below_setRow HB.out (Nat.le_refl _) _⟩
end

end Mg
end Go.Proofs.Ytkigaclcmodjaaa

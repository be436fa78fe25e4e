/-
Events there and back; op.Get.
-/
import Derived.Test.YtgnfachjobohoaaOp4
namespace Go.Proofs.Ytgnfachjobohoaa
open Go.RowKit

theorem sameO_eq {a b : OpR} (h : sameO a b = true) : a = b := by
  unfold sameO Num.sameB at h
  simp only [Bool.and_eq_true, decide_eq_true_eq, beq_iff_eq] at h
  obtain ⟨k, s, q, p⟩ := a
  obtain ⟨k', s', q', p'⟩ := b
  dsimp only at h
  obtain ⟨rfl, rfl, rfl, rfl⟩ := h
  rfl
theorem sameO_self (a : OpR) : sameO a a = true := by unfold sameO Num.sameB; simp
theorem withinB_iff {n a b : Int} : withinB n a b = true ↔ a ≤ n ∧ n ≤ b := by unfold withinB; simp
/-- What an op that may be is. -/
theorem may_facts {o : OpR} (h : mayO o = true) : ∃ k s : Nat, o.k = (k : Nat) ∧ 1 ≤ k ∧ k ≤ 6 ∧ o.s = (s : Nat) ∧ s ≤ 40 ∧ -1000 ≤ o.q ∧ o.q ≤ 1000 ∧ (hasS o.k = false → o.s = 0) ∧ (hasQ o.k = false → o.q = 0) ∧ (hasP o.k = false → o.p = 0) := by
  unfold mayO at h
  simp only [Bool.and_eq_true] at h
  obtain ⟨h1, h2⟩ := h
  have h3 := sameO_eq h1
  have hs : o.s = if hasS o.k then o.s else 0 := congrArg OpR.s h3
  have hq : o.q = if hasQ o.k then o.q else 0 := congrArg OpR.q h3
  have hp : o.p = if hasP o.k then o.p else 0 := congrArg OpR.p h3
  have hs0 : hasS o.k = false → o.s = 0 := fun e => by rw [hs, e]; rfl
  have hq0 : hasQ o.k = false → o.q = 0 := fun e => by rw [hq, e]; rfl
  have hp0 : hasP o.k = false → o.p = 0 := fun e => by rw [hp, e]; rfl
  have key : (1 ≤ o.k ∧ o.k ≤ 6) ∧ (0 ≤ o.s ∧ o.s ≤ 40) ∧ (-1000 ≤ o.q ∧ o.q ≤ 1000) := by
    unfold bodyB at h2
    split at h2
    · simp only [Bool.and_eq_true, withinB_iff] at h2; omega
    split at h2
    · simp only [Bool.and_eq_true, withinB_iff] at h2; omega
    split at h2
    · simp only [Bool.and_eq_true, withinB_iff] at h2; omega
    split at h2
    · rename_i hk
      have hq1 := hq0 (by unfold hasQ; rcases hk with hk | hk <;> rw [hk] <;> decide)
      simp only [withinB_iff] at h2
      omega
    · have hk : o.k = 4 := by simpa using h2
      have hq1 := hq0 (by rw [hk]; decide)
      have hs1 := hs0 (by rw [hk]; decide)
      omega
  obtain ⟨k, hk⟩ := Int.eq_ofNat_of_zero_le (show 0 ≤ o.k by omega)
  obtain ⟨s, hs⟩ := Int.eq_ofNat_of_zero_le (show 0 ≤ o.s by omega)
  exact ⟨k, s, hk, by omega, by omega, hs, by omega, by omega, by omega, hs0, hq0, hp0⟩
theorem may_ok {o : OpR} (h : mayO o = true) (hp : o.p < 18446744073709551616) : o.Ok := by
  obtain ⟨k, s, h1, h2, h3, h4, h5, h6, h7, _⟩ := may_facts h
  exact ⟨by omega, by omega, by omega, by omega, by omega, by omega, hp⟩
theorem back_if {α : Type} {b : Bool} {P : List Nat → Except Int (α × List Nat)} {E : List Nat} {x x0 : α} (h1 : b = true → Back P E x) (h0 : b = false → x = x0) : Back (if b then P else pureP x0) (if b then E else []) x := by
  cases b with
  | true => simpa using h1 rfl
  | false => rw [h0 rfl]; exact back_pure x0
theorem op_back {o : OpR} (h : mayO o = true) (hp : o.p < 18446744073709551616) : Back opP (encO o) o := by
  obtain ⟨k, s, h1, h2, h3, h4, h5, h6, h7, h8, h9, h10⟩ := may_facts h
  have e0 : OpR.mk (k : Nat) (s : Nat) o.q o.p = o := by obtain ⟨_, _, _, _⟩ := o; dsimp only at *; rw [h1, h4]
  have hm : Back (mkO (OpR.mk (k : Nat) (s : Nat) o.q o.p)) [] o := by
    rw [e0]
    exact ⟨fun t => by unfold mkO; rw [if_pos h]; rfl, fun k hk => by simp at hk⟩
  have e1 : encO o = enc k ++ ((if hasS (k : Nat) then enc s else []) ++ ((if hasQ (k : Nat) then enc (zig o.q) else []) ++ ((if hasP (k : Nat) then encF o.p else []) ++ []))) := by
    unfold encO
    rw [h1, h4, wordN_nat k (by omega), wordN_nat s (by omega), List.append_nil]
  rw [h1] at h8 h9 h10
  rw [e1, opP_def]
  refine (small_back _ _ (by omega) (by omega)).bind ((back_if (fun _ => small_back _ _ (by omega) (by omega)) (fun e => ?_)).bind ((back_if (fun _ => int_back o.q (by omega) (by omega)) h9).bind ((back_if (fun _ => float_back o.p hp) h10).bind hm)))
  have := h8 e
  omega
theorem one_if {α : Type} {b : Bool} {P : List Nat → Except Int (α × List Nat)} {bs t : List Nat} {x x0 : α} {E : α → List Nat} (h : (if b then P else pureP x0) bs = .ok (x, t)) (h1 : P bs = .ok (x, t) → bs = E x ++ t) : bs = (if b then E x else []) ++ t := by
  cases b with
  | true => simpa using h1 (by simpa using h)
  | false => simp [pureP] at h; simp [h.2]
theorem op_ok {bs t : List Nat} {o : OpR} (hb : ∀ x ∈ bs, x < 256) (h : opP bs = .ok (o, t)) : bs = encO o ++ t ∧ mayO o = true ∧ o.p < 18446744073709551616 := by
  rw [opP_def] at h
  obtain ⟨k, b1, q1, h⟩ := bindP_inv h
  obtain ⟨s, b2, q2, h⟩ := bindP_inv h
  obtain ⟨q, b3, q3, h⟩ := bindP_inv h
  obtain ⟨p, b4, q4, h⟩ := bindP_inv h
  unfold mkO at h
  split at h
  · rename_i hr
    cases h
    have e1 := small_one hb q1
    have hb1 := lt_tail e1 hb
    have e2 := one_if (E := enc) q2 (small_one hb1)
    have hb2 := lt_tail e2 hb1
    have e3 := one_if (E := fun q => enc (zig q)) q3 (fun h => (int_one hb2 h).1)
    have hb3 := lt_tail e3 hb2
    have e4 := one_if (E := encF) q4 (fun h => (float_one hb3 h).1)
    have l1 := (small_ok q1).2
    have l2 : s ≤ 40 := by
      cases hs : hasS (k : Nat) with
      | true => rw [hs] at q2; have := (small_ok (by simpa using q2)).2; omega
      | false => rw [hs] at q2; simp [pureP] at q2; omega
    have l4 : p < 18446744073709551616 := by
      cases hs : hasP (k : Nat) with
      | true => rw [hs] at q4; exact (float_one hb3 (by simpa using q4)).2
      | false => rw [hs] at q4; simp [pureP] at q4; omega
    refine ⟨?_, hr, l4⟩
    unfold encO
    dsimp only
    rw [wordN_nat k (by omega), wordN_nat s (by omega)]
    rw [e1, e2, e3, e4]
    simp only [List.append_assoc]
  · cases h
theorem intP_ne (bs : List Nat) (x : Int) (h : intP bs = .error x) : x ≠ 0 := by
  unfold intP at h
  split at h
  · split at h
    · cases h
    · cases h; decide
  · rename_i y hy
    cases h
    exact smallP_ne (most := 0) (by unfold smallP; rw [hy])
theorem floatP_ne (bs : List Nat) (x : Int) (h : floatP bs = .error x) : x ≠ 0 := by
  unfold floatP at h
  split at h
  · cases h
  · cases h; decide
theorem if_ne {α : Type} {b : Bool} {P : List Nat → Except Int (α × List Nat)} {x0 : α} (h : ∀ bs x, P bs = .error x → x ≠ 0) : ∀ bs x, (if b then P else pureP x0) bs = .error x → x ≠ 0 := fun bs x e => by
  cases b with
  | true => exact h bs x (by simpa using e)
  | false => simp [pureP] at e
theorem opP_ne (bs : List Nat) (x : Int) (h : opP bs = .error x) : x ≠ 0 := by
  rw [opP_def] at h
  refine bindP_ne (fun _ _ => smallP_ne) (fun k => ?_) bs x h
  refine bindP_ne (if_ne fun _ _ => smallP_ne) (fun s => ?_)
  refine bindP_ne (if_ne intP_ne) (fun q => ?_)
  refine bindP_ne (if_ne floatP_ne) (fun p bs x h => ?_)
  unfold mkO at h
  split at h
  · cases h
  · cases h; decide

/-- The event that bytes begin with. -/
def mkE (x : Ev) (t : List Nat) : Except Int (Ev × List Nat) := if rightE x then .ok (x, t) else .error 3
def evP : List Nat → Except Int (Ev × List Nat) := bindP labP fun l => bindP opP fun o => mkE ⟨l, o⟩
attribute [irreducible] evP
theorem evP_def : evP = bindP labP fun l => bindP opP fun o => mkE ⟨l, o⟩ := by unfold evP; rfl
theorem evP_ne (bs : List Nat) (x : Int) (h : evP bs = .error x) : x ≠ 0 := by
  rw [evP_def] at h
  refine bindP_ne labP_ne (fun l => ?_) bs x h
  refine bindP_ne opP_ne (fun o bs x h => ?_)
  unfold mkE at h
  split at h
  · cases h
  · cases h; decide
def encE (x : Ev) : List Nat := encL x.l ++ encO x.o
structure Ev.Ok (x : Ev) : Prop where
  l : x.l.Ok
  o : x.o.Ok
def asReadE (x : Ev) : Ev := ⟨asRead x.l, x.o⟩
theorem asReadE_same (x : Ev) : rightE (asReadE x) = rightE x ∧ encE (asReadE x) = encE x ∧ (asReadE x).cells = x.cells := by
  obtain ⟨h1, h2, h3⟩ := asRead_same x.l
  refine ⟨?_, ?_, ?_⟩
  · unfold rightE asReadE; dsimp only; rw [h1]; rfl
  · unfold encE asReadE; dsimp only; rw [h2]
  · rw [ev_def, ev_def]; unfold asReadE; dsimp only; rw [h3]
theorem rightE_parts {x : Ev} (h : rightE x = true) : rightL x.l = true ∧ mayO x.o = true := by
  unfold rightE at h
  simp only [Bool.and_eq_true] at h
  exact ⟨h.1, h.2.2⟩
theorem ev_back {x : Ev} (h : rightE x = true) (hf : ∀ i, x.l.f i < 4294967296) (hp : x.o.p < 18446744073709551616) : Back evP (encE x) (asReadE x) := by
  obtain ⟨h1, h2⟩ := rightE_parts h
  have hr := (asReadE_same x).1.trans h
  have hm : Back (mkE (asReadE x)) [] (asReadE x) := ⟨fun t => by unfold mkE; rw [if_pos hr]; rfl, fun k hk => by simp at hk⟩
  have e : encE x = encL x.l ++ (encO x.o ++ []) := by unfold encE; rw [List.append_nil]
  rw [e, evP_def]
  exact (lab_back h1 hf).bind ((op_back h2 hp).bind hm)
theorem ev_ok {bs t : List Nat} {x : Ev} (hb : ∀ y ∈ bs, y < 256) (h : evP bs = .ok (x, t)) : bs = encE x ++ t ∧ rightE x = true ∧ (∀ i, x.l.f i < 4294967296) ∧ x.o.p < 18446744073709551616 := by
  rw [evP_def] at h
  obtain ⟨l, b1, q1, h⟩ := bindP_inv h
  obtain ⟨o, b2, q2, h⟩ := bindP_inv h
  unfold mkE at h
  split at h
  · rename_i hr
    cases h
    obtain ⟨e1, _, e3, _⟩ := lab_ok hb q1
    obtain ⟨e4, _, e6⟩ := op_ok (lt_tail e1 hb) q2
    refine ⟨?_, hr, e3, e6⟩
    unfold encE
    rw [e1, e4, List.append_assoc]
  · cases h
theorem ev_cut {x : Ev} (h : rightE x = true) (hf : ∀ i, x.l.f i < 4294967296) (hp : x.o.p < 18446744073709551616) {k : Nat} (hk : k < (encE x).length) : ∀ m, evP ((encE x).take k) ≠ .ok (m, []) := fun m e => by
  rw [(ev_back h hf hp).2 k hk] at e; cases e
theorem ev_yes {x : Ev} (h : rightE x = true) (hf : ∀ i, x.l.f i < 4294967296) (hp : x.o.p < 18446744073709551616) : evP (encE x) = .ok (asReadE x, []) := by
  have := (ev_back h hf hp).1 []
  rwa [List.append_nil] at this
theorem ev_more {x : Ev} (h : rightE x = true) (hf : ∀ i, x.l.f i < 4294967296) (hp : x.o.p < 18446744073709551616) (r : List Nat) (hr : r ≠ []) : ∀ m, evP (encE x ++ r) ≠ .ok (m, []) := fun m e => by
  rw [(ev_back h hf hp).1 r] at e; cases e; exact hr rfl

theorem setL_mid : ∀ (vs A pre post : List Value), A.length = vs.length → setL (pre ++ A ++ post).toArray pre.length vs = (pre ++ vs ++ post).toArray
  | [], A, pre, post, h => by
    obtain rfl : A = [] := List.length_eq_zero_iff.1 h
    rfl
  | v :: r, [], pre, post, h => by cases h
  | v :: r, a :: A, pre, post, h => by
    have h2 : (pre ++ a :: A ++ post).toArray.setIfInBounds pre.length v = (pre ++ [v] ++ A ++ post).toArray := by simp
    have ih := setL_mid r A (pre ++ [v]) post (by simpa using h)
    rw [List.length_append] at ih
    show setL ((pre ++ a :: A ++ post).toArray.setIfInBounds pre.length v) (pre.length + 1) r = _
    rw [h2]
    exact ih.trans (by simp)
def zOpL : List Value := [.int .i64 0, .int .i64 0, .int .i64 0, .float .f64 0]
theorem zev_lab (l : Lab) : setL #[.int .u64 0, .int .i64 0, .int .u32 0, .int .i64 0, .int .i64 0, .int .u32 0, .int .u32 0, .int .u32 0, .int .u32 0, .int .u32 0, .int .u32 0, .int .u32 0, .int .u32 0, .int .u32 0, .int .u32 0, .int .u32 0, .int .u32 0, .int .i64 0, .int .i64 0, .int .i64 0, .float .f64 0] 0 l.cells = (l.cells ++ zOpL).toArray :=
  setL_mid l.cells [.int .u64 0, .int .i64 0, .int .u32 0, .int .i64 0, .int .i64 0, .int .u32 0, .int .u32 0, .int .u32 0, .int .u32 0, .int .u32 0, .int .u32 0, .int .u32 0, .int .u32 0, .int .u32 0, .int .u32 0, .int .u32 0, .int .u32 0] [] zOpL (by rw [lab_len]; rfl)
theorem zev_op (l : Lab) (o : OpR) : setL (l.cells ++ zOpL).toArray 17 o.cells = (Ev.mk l o).cells.toArray := by
  have := setL_app o.cells zOpL l.cells (by rw [op_len]; rfl)
  rw [lab_len] at this
  rw [this, ev_def]
theorem ev_siz (x : Ev) : (#[.int .u64 0, .int .i64 0, .int .u32 0, .int .i64 0, .int .i64 0, .int .u32 0, .int .u32 0, .int .u32 0, .int .u32 0, .int .u32 0, .int .u32 0, .int .u32 0, .int .u32 0, .int .u32 0, .int .u32 0, .int .u32 0, .int .u32 0, .int .i64 0, .int .i64 0, .int .i64 0, .float .f64 0] : Array Value).size = x.cells.toArray.size := show 21 = x.cells.toArray.size by rw [List.size_toArray, ev_len]

variable {L : Nat}
end Go.Proofs.Ytgnfachjobohoaa

/-
input: bytes there and back.
input: Read.
input: plain data as inputs; what came in; Great.
-/
import Derived.Test.YtgnfachjobohoaaGreatIn6
import Derived.Test.YtgnfachjobohoaaGreatEndT
import Derived.Test.YtgnfachjobohoaaGreatPk8
namespace Go.Proofs.YtgnfachjobohoaaGreat
open Go.RowKit
set_option linter.unusedSimpArgs false
set_option linter.unusedVariables false
namespace In
theorem eqB_vl {f g : Nat → Nat} (h : eqB f g = true) : vl f = vl g := vl_ext ((eqB_iff f g).1 h)
theorem vl_eqB {f g : Nat → Nat} (h : vl f = vl g) : eqB f g = true := (eqB_iff f g).2 (vl_inj h)
theorem eqB_congr {f g f' g' : Nat → Nat} (h : vl f = vl f') (h2 : vl g = vl g') : eqB f g = eqB f' g' := by
  rw [Bool.eq_iff_iff]
  constructor
  · intro e; exact vl_eqB (h.symm.trans ((eqB_vl e).trans h2))
  · intro e; exact vl_eqB (h.trans ((eqB_vl e).trans h2.symm))
/-- The same, but for what is beyond vectors, and where data lie. -/
structure Eq8 (m n : Iv) : Prop where
  k : m.k = n.k
  ca : m.ca = n.ca
  se : m.se = n.se
  no : m.no = n.no
  f : vl m.f = vl n.f
  t : m.t = n.t
  o : m.o = n.o
  p : m.x.p = n.x.p
theorem Eq8.symm {m n : Iv} (h : Eq8 m n) : Eq8 n m := ⟨h.k.symm, h.ca.symm, h.se.symm, h.no.symm, h.f.symm, h.t.symm, h.o.symm, h.p.symm⟩
theorem Eq8.trans {a b c : Iv} (h : Eq8 a b) (g : Eq8 b c) : Eq8 a c := ⟨h.k.trans g.k, h.ca.trans g.ca, h.se.trans g.se, h.no.trans g.no, h.f.trans g.f, h.t.trans g.t, h.o.trans g.o, h.p.trans g.p⟩
theorem sameP_iff (p q : Pk.Pt) : sameP p q = true ↔ p = q := by
  obtain ⟨k, f, t, n, bs⟩ := p
  obtain ⟨k2, f2, t2, n2, bs2⟩ := q
  unfold sameP
  simp only [Bool.and_eq_true, beq_iff_eq, decide_eq_true_eq, Pk.Pt.mk.injEq]
  constructor
  · rintro ⟨h1, h2, h3, h4, h5⟩; exact ⟨h1, h2, h3, by omega, h5⟩
  · rintro ⟨h1, h2, h3, h4, h5⟩; exact ⟨h1, h2, h3, by omega, h5⟩
theorem sameO_iff (a b : OpR) : sameO a b = true ↔ a = b := ⟨sameO_eq, fun h => by rw [h, sameO_self]⟩
theorem sameI_iff (a b : Iv) : sameI a b = true ↔ Eq8 a b := by
  unfold sameI numsI
  simp only [Bool.and_eq_true, beq_iff_eq, sameP_iff, sameO_iff]
  constructor
  · rintro ⟨⟨h1, h2, h3, h4⟩, h5, h6, h7, h8⟩; exact ⟨h1, h2, h3, h4, eqB_vl h5, by omega, h7, h8⟩
  · intro h; exact ⟨⟨h.k, h.ca, h.se, h.no⟩, vl_eqB h.f, by have := h.t; omega, h.o, h.p⟩
theorem parts8 {m n : Iv} (h : Eq8 m n) : Eq8 (partsI m) (partsI n) := by
  unfold partsI
  rw [h.k]
  refine ⟨rfl, ?_, ?_, ?_, ?_, ?_, ?_, ?_⟩ <;> dsimp only
  · rw [h.ca]
  · rw [h.se]
  · rw [h.no]
  · split
    · exact h.f
    · rfl
  · rw [h.t]
  · rw [h.o]
  · split
    · exact h.p
    · rfl
theorem cartB8 {m n : Iv} (h : Eq8 m n) : cartB m = cartB n := by
  unfold cartB
  rw [h.ca, h.t, maxK_ext 11 (fun i hi => vl_inj h.f i (by omega))]
theorem body8 {m n : Iv} (h : Eq8 m n) : bodyI m = bodyI n := by
  unfold bodyI
  rw [cartB8 h, h.k, h.se, h.no, h.o, h.p]
theorem right8 {m n : Iv} (h : Eq8 m n) : rightI m = rightI n := by
  unfold rightI
  rw [body8 h]
  congr 1
  rw [Bool.eq_iff_iff, sameI_iff, sameI_iff]
  exact ⟨fun g => h.symm.trans (g.trans (parts8 h)), fun g => h.trans (g.trans (parts8 h.symm))⟩
theorem enc8 {m n : Iv} (h : Eq8 m n) : encI m = encI n := by
  have hf := vl_inj h.f
  unfold encI encV
  rw [topV_ext 12 hf, trimV_ext hf, h.k, h.ca, h.se, h.no, h.t, h.o, h.p]
/-- An input as it is read. -/
def asI (m : Iv) : Iv := ⟨m.k, if hC m.k then m.ca else 0, if hS m.k then m.se else 0, if hN m.k then m.no else 0, if hC m.k then lv (trimV m.f) else fun _ => 0, if hC m.k then m.t else 0, if hO m.k then m.o else zo, ⟨if hP m.k then m.x.p else zp, none, 0⟩⟩
theorem asI_parts (m : Iv) : Eq8 (asI m) (partsI m) := by
  unfold asI partsI
  refine ⟨rfl, rfl, rfl, rfl, ?_, rfl, rfl, ?_⟩ <;> dsimp only
  · split
    · exact vl_ext (lv_trim m.f)
    · rfl
  · split
    · rfl
    · rfl
theorem asI_8 {m : Iv} (hr : rightI m = true) : Eq8 (asI m) m := by
  unfold rightI at hr
  rw [Bool.and_eq_true] at hr
  exact (asI_parts m).trans ((sameI_iff _ _).1 hr.1).symm
theorem asI_right {m : Iv} (hr : rightI m = true) : rightI (asI m) = true := (right8 (asI_8 hr)).trans hr
theorem at_8 (m : Iv) (A : Option Addr) (c : Nat) : Eq8 (m.at A c) m := ⟨rfl, rfl, rfl, rfl, rfl, rfl, rfl, rfl⟩
theorem back_mk {m : Iv} (hr : rightI m = true) : Back (mkI m) [] m := ⟨fun t => by unfold mkI; rw [if_pos hr]; rfl, fun k hk => by simp at hk⟩
theorem back_nil {α : Type} {P : List Nat → Except Int (α × List Nat)} {E : List Nat} {x : α} (h : Back P (E ++ []) x) : Back P E x := by rwa [List.append_nil] at h
theorem pkOf_enc {p : Pk.Pt} (h : Pk.Rt p) (h256 : ∀ y ∈ p.bs, y < 256) : pkOf (Pk.encP p) = some p := by
  unfold pkOf
  rw [Pk.k_yes h h256]
  simp
theorem pk_back {p : Pk.Pt} (h : Pk.Rt p) (h256 : ∀ y ∈ p.bs, y < 256) (hl : (Pk.encP p).length ≤ 1800) : Back pkP (enc (Pk.encP p).length ++ Pk.encP p) p := by
  rw [pkP_def]
  refine back_nil ((text_back 1800 (Pk.encP p) (by omega) (by omega)).bind ?_)
  exact ⟨fun t => by unfold mkK; rw [pkOf_enc h h256]; rfl, fun k hk => by simp at hk⟩
theorem bs_256 {p : Pk.Pt} (h : Pk.Rt p) (hb : ∀ y ∈ Pk.encP p, y < 256) : ∀ y ∈ p.bs, y < 256 := by
  intro y hy
  apply hb
  unfold Pk.encP Pk.encB
  have hd := h.d
  unfold Pk.dataB at hd
  cases hk : p.k with
  | true =>
    rw [hk] at hd
    simp at hd
    rw [hd] at hy; cases hy
  | false => simp [hy]
theorem pk_ok {bs t : List Nat} {p : Pk.Pt} (hb : ∀ x ∈ bs, x < 256) (h : pkP bs = .ok (p, t)) : bs = (enc (Pk.encP p).length ++ Pk.encP p) ++ t ∧ ∀ y ∈ p.bs, y < 256 := by
  rw [pkP_def] at h
  obtain ⟨x, b1, q1, h⟩ := bindP_inv h
  have e1 := text_one hb q1
  have e2 := (Pk.textP_in hb q1).1
  unfold mkK at h
  split at h
  · rename_i p' hp
    cases h
    have e3 := pkOf_some hp
    have e4 := Pk.k_one e2 e3
    refine ⟨by rw [e1, e4], bs_256 (Pk.kP_right e3) (by rw [← e4]; exact e2)⟩
  · cases h
theorem withinN {n a b : Int} (h : withinB n a b = true) : a ≤ n ∧ n ≤ b := withinB_iff.1 h
theorem body_cart {m : Iv} (h : rightI m = true) (h1 : hC m.k = true) : cartB m = true := by
  have := body_of h
  unfold bodyI at this
  rw [h1] at this
  cases hm : cartB m with
  | true => rfl
  | false => rw [hm] at this; simp at this
theorem body_se {m : Iv} (h : rightI m = true) (h1 : hS m.k = true) : withinB m.se 1 12 = true := by
  have := body_of h
  unfold bodyI at this
  rw [h1] at this
  cases hm : withinB m.se 1 12 with
  | true => rfl
  | false => rw [hm] at this; simp at this
theorem body_no {m : Iv} (h : rightI m = true) (h1 : hN m.k = true) : withinB m.no 1 12 = true := by
  have := body_of h
  unfold bodyI at this
  rw [h1] at this
  cases hm : withinB m.no 1 12 with
  | true => rfl
  | false => rw [hm] at this; simp at this
theorem cart_ca {m : Iv} (h : cartB m = true) : 1 ≤ m.ca ∧ m.ca ≤ 12 := by
  unfold cartB at h
  rw [Bool.and_eq_true] at h
  exact withinN h.1
theorem kind_nat {m : Iv} (hr : rightI m = true) : ∃ n : Nat, m.k = (n : Nat) ∧ 1 ≤ n ∧ n ≤ 6 := by
  have hb := body_of hr
  unfold bodyI at hb
  rw [Bool.and_eq_true] at hb
  obtain ⟨h1, h2⟩ := withinN hb.1
  exact ⟨m.k.toNat, by omega, by omega, by omega⟩
def restI (m : Iv) : List Nat := (if hC m.k then enc (wordN m.ca) else []) ++ ((if hS m.k then enc (wordN m.se) else []) ++ ((if hN m.k then enc (wordN m.no) else []) ++ ((if hC m.k then encV m.f ++ enc m.t else []) ++ ((if hO m.k then encO m.o else []) ++ (if hP m.k then enc (Pk.encP m.x.p).length ++ Pk.encP m.x.p else [])))))
theorem encI_rest (m : Iv) : encI m = enc (wordN m.k) ++ restI m := rfl
theorem kind_back {m : Iv} (hr : rightI m = true) (ho : m.Ok) (h256 : ∀ y ∈ m.x.p.bs, y < 256) (hl : (encI m).length ≤ 1800) : Back (kindP m.k) (restI m) (asI m) := by
  have hm := back_mk (asI_right hr)
  have hlr : (restI m).length ≤ 1800 := by rw [encI_rest, List.length_append] at hl; omega
  have hca : hC m.k = true → ∃ a : Nat, m.ca = (a : Nat) ∧ a ≤ 12 := fun h => by obtain ⟨h1, h2⟩ := cart_ca (body_cart hr h); exact ⟨m.ca.toNat, by omega, by omega⟩
  have hse : hS m.k = true → ∃ a : Nat, m.se = (a : Nat) ∧ a ≤ 12 := fun h => by obtain ⟨h1, h2⟩ := withinN (body_se hr h); exact ⟨m.se.toNat, by omega, by omega⟩
  have hno : hN m.k = true → ∃ a : Nat, m.no = (a : Nat) ∧ a ≤ 12 := fun h => by obtain ⟨h1, h2⟩ := withinN (body_no hr h); exact ⟨m.no.toNat, by omega, by omega⟩
  have hop : hO m.k = true → mayO m.o = true := body_op hr
  have hpk : hP m.k = true → Pk.Rt m.x.p := fun h => Pk.right_of (body_pk hr h)
  unfold restI at hlr ⊢
  unfold asI at hm ⊢
  unfold kindP
  rcases kd_any m.k with ⟨h0, h1, h2, h3, h4, h5⟩ | ⟨h0, h1, h2, h3, h4, h5⟩ | ⟨h0, h1, h2, h3, h4, h5⟩ | ⟨h0, h1, h2, h3, h4, h5⟩ | ⟨h0, h1, h2, h3, h4, h5⟩ | ⟨h0, h1, h2, h3, h4, h5⟩
  all_goals rw [h1, h2, h3, h4, h5] at hm hlr ⊢
  all_goals simp only [Bool.false_eq_true, if_false, if_true, List.append_nil, List.nil_append] at hm hlr ⊢
  · obtain ⟨a, ha, ha2⟩ := hca h1
    obtain ⟨b, hb, hb2⟩ := hse h2
    rw [ha, hb] at hm ⊢
    rw [wordN_nat a (by omega), wordN_nat b (by omega), List.append_assoc]
    exact (small_back 12 a (by omega) (by omega)).bind ((small_back 12 b (by omega) (by omega)).bind ((vector_back m.f ho.f).bind ((num_back m.t ho.t).bind (back_nil ((op_back (hop h4) ho.p).bind hm)))))
  · obtain ⟨b, hb, hb2⟩ := hse h2
    rw [hb] at hm ⊢
    rw [wordN_nat b (by omega)]
    exact back_nil ((small_back 12 b (by omega) (by omega)).bind hm)
  · obtain ⟨b, hb, hb2⟩ := hse h2
    obtain ⟨a, ha, ha2⟩ := hno h3
    rw [ha, hb] at hm ⊢
    rw [wordN_nat a (by omega), wordN_nat b (by omega)]
    exact (small_back 12 b (by omega) (by omega)).bind (back_nil ((small_back 12 a (by omega) (by omega)).bind hm))
  · obtain ⟨a, ha, ha2⟩ := hca h1
    rw [ha] at hm ⊢
    rw [wordN_nat a (by omega)]
    exact (small_back 12 a (by omega) (by omega)).bind ((vector_back m.f ho.f).bind (back_nil ((num_back m.t ho.t).bind hm)))
  · have hl2 : (Pk.encP m.x.p).length ≤ 1800 := by rw [List.length_append] at hlr; omega
    exact back_nil ((pk_back (hpk h5) h256 hl2).bind hm)
  · have := body_of hr
    unfold bodyI withinB at this
    simp only [Bool.and_eq_true, decide_eq_true_eq] at this
    omega
theorem in_back {m : Iv} (hr : rightI m = true) (ho : m.Ok) (h256 : ∀ y ∈ m.x.p.bs, y < 256) (hl : (encI m).length ≤ 1800) : Back inP (encI m) (asI m) := by
  obtain ⟨n, hn, h1, h2⟩ := kind_nat hr
  have hk := kind_back hr ho h256 hl
  rw [inP_def, encI_rest]
  rw [hn] at hk ⊢
  rw [wordN_nat n (by omega)]
  exact (small_back 6 n (by omega) (by omega)).bind hk
theorem in_yes {m : Iv} (hr : rightI m = true) (ho : m.Ok) (h256 : ∀ y ∈ m.x.p.bs, y < 256) (hl : (encI m).length ≤ 1800) : inP (encI m) = .ok (asI m, []) := by
  have := (in_back hr ho h256 hl).1 []
  rwa [List.append_nil] at this
theorem in_cut {m : Iv} (hr : rightI m = true) (ho : m.Ok) (h256 : ∀ y ∈ m.x.p.bs, y < 256) (hl : (encI m).length ≤ 1800) {k : Nat} (hk : k < (encI m).length) : ∀ x, inP ((encI m).take k) ≠ .ok (x, []) := fun x e => by
  rw [(in_back hr ho h256 hl).2 k hk] at e; cases e
theorem in_more {m : Iv} (hr : rightI m = true) (ho : m.Ok) (h256 : ∀ y ∈ m.x.p.bs, y < 256) (hl : (encI m).length ≤ 1800) (r : List Nat) (h0 : r ≠ []) : ∀ x, inP (encI m ++ r) ≠ .ok (x, []) := fun x e => by
  rw [(in_back hr ho h256 hl).1 r] at e
  simp only [Except.ok.injEq, Prod.mk.injEq] at e
  exact h0 e.2
theorem mkI_ok {n m : Iv} {b t : List Nat} (h : mkI n b = .ok (m, t)) : m = n ∧ t = b ∧ rightI n = true := by
  unfold mkI at h
  split at h
  · rename_i hr; cases h; exact ⟨rfl, rfl, hr⟩
  · cases h
theorem ok_zero (k : Int) : (zI k).Ok := ⟨fun i => by show (0 : Nat) < _; decide, by show (0 : Nat) < _; decide, by show (0 : Nat) < _; decide⟩
theorem kind_ok {n : Nat} {bs t : List Nat} {m : Iv} (hb : ∀ x ∈ bs, x < 256) (hn : n ≤ 6) (h : kindP (n : Nat) bs = .ok (m, t)) : enc n ++ bs = encI m ++ t ∧ rightI m = true ∧ m.Ok ∧ (∀ y ∈ m.x.p.bs, y < 256) ∧ m.x.A = none ∧ m.x.c = 0 := by
  unfold kindP at h
  have hw := wordN_nat n (by omega)
  rcases kd_any (n : Nat) with ⟨h0, h1, h2, h3, h4, h5⟩ | ⟨h0, h1, h2, h3, h4, h5⟩ | ⟨h0, h1, h2, h3, h4, h5⟩ | ⟨h0, h1, h2, h3, h4, h5⟩ | ⟨h0, h1, h2, h3, h4, h5⟩ | ⟨h0, h1, h2, h3, h4, h5⟩
  all_goals rw [h1, h2, h3, h4, h5] at h
  all_goals simp only [Bool.false_eq_true, if_false, if_true] at h
  · obtain ⟨a, b1, q1, h⟩ := bindP_inv h
    obtain ⟨b, b2, q2, h⟩ := bindP_inv h
    obtain ⟨l, b3, q3, h⟩ := bindP_inv h
    obtain ⟨v, b4, q4, h⟩ := bindP_inv h
    obtain ⟨o, b5, q5, h⟩ := bindP_inv h
    obtain ⟨rfl, rfl, hr⟩ := mkI_ok h
    have e1 := small_one hb q1
    have l1 := (small_ok q1).2
    have hb1 := lt_tail e1 hb
    have e2 := small_one hb1 q2
    have l2 := (small_ok q2).2
    have hb2 := lt_tail e2 hb1
    obtain ⟨e3, -, g3, -⟩ := vector_one hb2 q3
    have hb3 := lt_tail e3 hb2
    have e4 := num_one hb3 q4
    have hb4 := lt_tail e4 hb3
    obtain ⟨e5, -, g5⟩ := op_ok hb4 q5
    refine ⟨?_, hr, ⟨g3, numP_lt _ _ _ _ _ q4, g5⟩, (fun y hy => by cases hy), rfl, rfl⟩
    unfold encI zI
    dsimp only
    rw [h1, h2, h3, h4, h5, hw, wordN_nat a (by omega), wordN_nat b (by omega), e1, e2, e3, e4, e5]
    simp [List.append_assoc]
  · obtain ⟨b, b2, q2, h⟩ := bindP_inv h
    obtain ⟨rfl, rfl, hr⟩ := mkI_ok h
    have e2 := small_one hb q2
    have l2 := (small_ok q2).2
    refine ⟨?_, hr, { ok_zero (n : Nat) with }, (fun y hy => by cases hy), rfl, rfl⟩
    unfold encI zI
    dsimp only
    rw [h1, h2, h3, h4, h5, hw, wordN_nat b (by omega), e2]
    simp [List.append_assoc]
  · obtain ⟨b, b2, q2, h⟩ := bindP_inv h
    obtain ⟨a, b3, q3, h⟩ := bindP_inv h
    obtain ⟨rfl, rfl, hr⟩ := mkI_ok h
    have e2 := small_one hb q2
    have l2 := (small_ok q2).2
    have e3 := small_one (lt_tail e2 hb) q3
    have l3 := (small_ok q3).2
    refine ⟨?_, hr, { ok_zero (n : Nat) with }, (fun y hy => by cases hy), rfl, rfl⟩
    unfold encI zI
    dsimp only
    rw [h1, h2, h3, h4, h5, hw, wordN_nat b (by omega), wordN_nat a (by omega), e2, e3]
    simp [List.append_assoc]
  · obtain ⟨a, b1, q1, h⟩ := bindP_inv h
    obtain ⟨l, b3, q3, h⟩ := bindP_inv h
    obtain ⟨v, b4, q4, h⟩ := bindP_inv h
    obtain ⟨rfl, rfl, hr⟩ := mkI_ok h
    have e1 := small_one hb q1
    have l1 := (small_ok q1).2
    have hb1 := lt_tail e1 hb
    obtain ⟨e3, -, g3, -⟩ := vector_one hb1 q3
    have hb3 := lt_tail e3 hb1
    have e4 := num_one hb3 q4
    refine ⟨?_, hr, ⟨g3, numP_lt _ _ _ _ _ q4, by show (0 : Nat) < _; decide⟩, (fun y hy => by cases hy), rfl, rfl⟩
    unfold encI zI
    dsimp only
    rw [h1, h2, h3, h4, h5, hw, wordN_nat a (by omega), e1, e3, e4]
    simp [List.append_assoc]
  · obtain ⟨p, b1, q1, h⟩ := bindP_inv h
    obtain ⟨rfl, rfl, hr⟩ := mkI_ok h
    obtain ⟨e1, g1⟩ := pk_ok hb q1
    refine ⟨?_, hr, { ok_zero (n : Nat) with }, g1, rfl, rfl⟩
    unfold encI zI
    dsimp only
    rw [h1, h2, h3, h4, h5, hw, e1]
    simp [List.append_assoc]
  · obtain ⟨rfl, rfl, hr⟩ := mkI_ok h
    have := body_of hr
    unfold bodyI withinB at this
    simp only [Bool.and_eq_true, decide_eq_true_eq] at this
    have h6 : (zI (n : Nat)).k = (n : Nat) := rfl
    omega
theorem in_ok {bs t : List Nat} {m : Iv} (hb : ∀ x ∈ bs, x < 256) (h : inP bs = .ok (m, t)) : bs = encI m ++ t ∧ rightI m = true ∧ m.Ok ∧ (∀ y ∈ m.x.p.bs, y < 256) ∧ m.x.A = none ∧ m.x.c = 0 := by
  rw [inP_def] at h
  obtain ⟨n, b1, q1, h⟩ := bindP_inv h
  have e1 := small_one hb q1
  have l1 := (small_ok q1).2
  obtain ⟨h1, h2⟩ := kind_ok (lt_tail e1 hb) (by omega) h
  exact ⟨e1.trans h1, h2⟩
theorem mkI_ne (m : Iv) (b : List Nat) (x : Int) (h : mkI m b = .error x) : x ≠ 0 := by
  unfold mkI at h
  split at h
  · cases h
  · cases h; decide
theorem pkP_ne (b : List Nat) (x : Int) (h : pkP b = .error x) : x ≠ 0 := by
  rw [pkP_def] at h
  refine bindP_ne (fun _ _ => Pk.textP_ne) (fun y b z hz => ?_) b x h
  unfold mkK at hz
  split at hz
  · cases hz
  · cases hz; decide
theorem kindP_ne (k : Int) (b : List Nat) (x : Int) (h : kindP k b = .error x) : x ≠ 0 := by
  unfold kindP at h
  split at h
  · exact bindP_ne pkP_ne (fun _ b y hy => mkI_ne _ b y hy) b x h
  · split at h
    · exact bindP_ne (fun _ _ => smallP_ne) (fun _ b y hy => bindP_ne (fun _ _ => smallP_ne) (fun _ b y hy => mkI_ne _ b y hy) b y hy) b x h
    · split at h
      · exact bindP_ne (fun _ _ => smallP_ne) (fun _ b y hy => bindP_ne (fun _ _ => smallP_ne) (fun _ b y hy => bindP_ne vectorP_ne (fun _ b y hy => bindP_ne (fun b y => numP_err b true 0 y) (fun _ b y hy => bindP_ne opP_ne (fun _ b y hy => mkI_ne _ b y hy) b y hy) b y hy) b y hy) b y hy) b x h
      · split at h
        · exact bindP_ne (fun _ _ => smallP_ne) (fun _ b y hy => bindP_ne vectorP_ne (fun _ b y hy => bindP_ne (fun b y => numP_err b true 0 y) (fun _ b y hy => mkI_ne _ b y hy) b y hy) b y hy) b x h
        · split at h
          · exact bindP_ne (fun _ _ => smallP_ne) (fun _ b y hy => mkI_ne _ b y hy) b x h
          · exact mkI_ne _ b x h
theorem inP_ne (bs : List Nat) (x : Int) (h : inP bs = .error x) : x ≠ 0 := by
  rw [inP_def] at h
  exact bindP_ne (fun _ _ => smallP_ne) (fun n b y hy => kindP_ne _ b y hy) bs x h
end In
end Go.Proofs.YtgnfachjobohoaaGreat
namespace Go.Proofs.YtgnfachjobohoaaGreat
open Go.RowKit
set_option linter.unusedSimpArgs false
set_option linter.unusedVariables false
namespace In
abbrev zinL : List Value := [.int .i64 0, .int .i64 0, .int .i64 0, .int .i64 0, .int .u32 0, .int .u32 0, .int .u32 0, .int .u32 0, .int .u32 0, .int .u32 0, .int .u32 0, .int .u32 0, .int .u32 0, .int .u32 0, .int .u32 0, .int .u32 0, .int .u64 0, .int .i64 0, .int .i64 0, .int .i64 0, .float .f64 0, .bool false, .int .i64 0, .int .i64 0, .int .u64 0, .slice none 0 0]
abbrev zinA : Array Value := zinL.toArray
theorem zin_eq : (zI 0).cells.toArray = zinA := zI_cells 0
theorem zin_siz (x : Iv) : (zinA : Array Value).size = x.cells.toArray.size := show 26 = x.cells.toArray.size by rw [List.size_toArray, iv_len]
theorem zin_nou : ∀ v ∈ zinL, ∀ n, v ≠ .int .u8 n := by
  have := iv_nou (zI 0)
  rw [zI_list] at this
  exact this
theorem zin_sz : (Tryz.prog.info? 48).map (·.size) = some (zinA : Array Value).size := by kernel_rfl
theorem zin_one : (zinA : Array Value).all (·.oneCell') = true := by simp [Value.oneCell']
theorem zin_info : (Tryz.prog.info? 48).map (·.size) = some (List.length (zinL : List Value)) := by kernel_rfl
def Rd1 (s c : Nat) (W : World) (x : Iv) (W2 : World) : Prop := ∃ W1 A d, Off s W W1 ∧ W2 = W1.setRow c (x.at A d).cells.toArray ∧ Blk W2 c 48 (x.at A d).cells.toArray ∧ (x.at A d).x.Ok W2 ∧ (∀ b o, A = some ⟨b, o, none⟩ → W.heap.size ≤ b)
theorem built_no : Tryz.prog.built 48 [] = some zinA := by kernel_rfl
variable {L : Nat}
set_option maxRecDepth 20000 in
set_option maxHeartbeats 8000000 in
theorem inread1_any (k s c : Nat) (bs : List Nat) (W : World) (hL : L ≤ W.heap.size) (hr : Rdr W k s) (h : RdB L W s bs) (hby : ∀ x ∈ bs, x < 256) (hlen : bs.length ≤ 140737488355328) (hc : Blk W c 48 zinA) (hcs : c ≠ s) (hLc : L ≤ c) :
    Calls Tryz.prog 21 #[.pointer (some ⟨k, 0, none⟩), .pointer (some ⟨c, 0, none⟩)] W fun e W2 => match inP bs with
      | .ok (x, t) => e = .returned (.tuple #[]) ∧ RdB L W2 s t ∧ Rd1 s c W x W2
      | .error x => e = .panicked [{ v := flt s, recovered := false }] ∧ Met' W2 s x ∧ Off s W W2 := by
  have HG := Lib.hid (inget_any k s bs W hL hr h hby hlen)
  obtain ⟨R, hR⟩ : ∃ R, R = inP bs := ⟨_, rfl⟩
  rw [← hR] at HG ⊢
  clear hR h hr hby hlen
  match R with
  | .error x =>
    go_enter Tryz.func21, Tryz.ntmps21
    go_wp2_with (go_at_call 22; refine HG.out.mono ?_; rintro e w1 ⟨hO, rfl, hM⟩)
    exact ⟨rfl, rfl, hM, hO⟩
  | .ok (x, t) =>
    go_enter Tryz.func21, Tryz.ntmps21
    go_wp2_with (first | (go_at_call 22; refine HG.out.mono ?_; rintro e w1 ⟨hO, ⟨A, d, rfl, hok, hlow⟩, hB⟩; have HO := Lib.hid hO; have HB := Lib.hid hB; have HOK := Lib.hid (And.intro hok hlow); have bc := hO.blk hc hcs; clear hO hB hok hlow) | (refine wpList_store_blk rfl 48 _ _ rfl c 48 _ (x.at A d).cells.toArray rfl rfl bc (ivinfoA _) (zin_siz _) (iv_one _) ?_; intro hrow))
    have hf : ∀ j, j ≠ c → (w1.setRow c (x.at A d).cells.toArray).heap[j]? = w1.heap[j]? := fun j hj => setRow_other w1 c j _ hj
    have hz : (w1.setRow c (x.at A d).cells.toArray).heap.size = w1.heap.size := by simp
    exact ⟨rfl, .tuple #[], by simp [results, Tryz.results21, go_sem], rfl, HB.out.turn (Nat.le_of_eq hz.symm) hf hcs hLc, ⟨w1, A, d, HO.out, rfl, hrow, pc_far (cs := zinL) HOK.out.1 bc zin_nou hf (Nat.le_of_eq hz.symm), HOK.out.2⟩⟩
/-- Two boxes of noughts. -/
def twoI (W : World) : World := (W.alloc (.cells zinA 48)).alloc (.cells zinA 48)
theorem twoI_size (W : World) : (twoI W).heap.size = W.heap.size + 2 := by simp [twoI]
theorem twoI_below (W : World) : Below W.heap.size W (twoI W) := ((Below.refl _ W).alloc (Nat.le_refl _) _).alloc (by simp) _
def InRead (bs : List Nat) (W : World) (r : Except Int (List Nat)) (W' : World) : Prop :=
  (match inP bs with | .ok (l, t) => r = .ok t ∧ ∃ A d, Blk W' (W.heap.size + 1) 48 (l.at A d).cells.toArray ∧ (l.at A d).x.Ok W' ∧ (∀ b o, A = some ⟨b, o, none⟩ → W.heap.size + 6 ≤ b) | .error x => r = .error x) ∧ Blk W' W.heap.size 48 zinA ∧ Below W.heap.size W W'
set_option maxRecDepth 20000 in
theorem inread_call (A : Option Addr) (n cp : Nat) (W : World) (bs : List Nat) (hn : bs.length = n) (hnc : n ≤ cp) (hby : ∀ x ∈ bs, x < 256) (hlen : bs.length ≤ 140737488355328) (hbs : Byt.ByR W A bs) :
    Calls Tryz.prog 20 #[.slice A n cp, .func (.func 21) #[] #[.pointer (some ⟨W.heap.size + 1, 0, none⟩)]] (twoI W) fun e W' => ∃ r, e = .returned (.int .i64 (readE r)) ∧ InRead bs W r W' := by
  have hb0 := twoI_below W
  have hsz := twoI_size W
  have hg0 : Blk (twoI W) W.heap.size 48 zinA := (Blk.new W 48 zinA).alloc _
  have hc0 : Blk (twoI W) (W.heap.size + 1) 48 zinA := Blk.new' (by simp)
  refine (read_any4 (L := W.heap.size) A n cp 21 #[.pointer (some ⟨W.heap.size + 1, 0, none⟩)] (twoI W) bs (fun r W2 => InRead bs W r W2)
    (fun args w => Pk.run_enter Tryz.func21 (by kernel_rfl) (by kernel_rfl) args w) hn hnc (by omega) ?_ ?_).mono ?_
  · refine hbs.imp id ?_
    rintro ⟨b, p, h1, h2, h3⟩
    exact ⟨b, p, h1, h2, fun i x hx => (hb0.cell (p := ⟨b, p + i, none⟩) h2).trans (h3 i x hx)⟩
  · intro W1 k s hb hs hk hs1 h4 _ hR hB
    have hg1 := hg0.next hb
    have hc1 := hc0.next hb
    refine (inread1_any k s (W.heap.size + 1) bs W1 (by omega) hR hB hby hlen hc1 (by omega) (by omega)).mono ?_
    intro e W2 h
    have hne := inP_ne bs
    unfold Fine InRead
    cases hq : inP bs with
    | error x =>
      rw [hq] at h
      obtain ⟨rfl, hM, hO⟩ := h
      refine ⟨fun b _ h6 h7 => hO.block b h6 h7, Or.inr ⟨x, hne x hq, rfl, hM, rfl, hO.blk hg1 (by omega), ?_⟩⟩
      exact hb0.trans ((hb.mono (by omega)).trans (hO.belowB (by omega) (by omega)))
    | ok q =>
      obtain ⟨l, t⟩ := q
      rw [hq] at h
      obtain ⟨rfl, hB2, w1, A, d, hO, rfl, hcb, hok, hlow⟩ := h
      have hf : ∀ j, j ≠ W.heap.size + 1 → (w1.setRow (W.heap.size + 1) (l.at A d).cells.toArray).heap[j]? = w1.heap[j]? := fun j hj => setRow_other w1 _ j _ hj
      refine ⟨fun b h5 h6 h7 => (hf b (by omega)).trans (hO.block b h6 h7), Or.inl ⟨t, rfl, hB2, ⟨rfl, A, d, hcb, hok, fun b o e => by have := hlow b o e; omega⟩, (hO.blk hg1 (by omega)).farRow (by omega) _, ?_⟩⟩
      exact below_setRow (hb0.trans ((hb.mono (by omega)).trans (hO.belowB (by omega) (by omega)))) (by omega) _
  · rintro e W' ⟨r, W2, hY, he, hb3, hk3⟩
    refine ⟨r, he, ?_⟩
    unfold InRead at hY ⊢
    refine ⟨?_, hY.2.1.below hb3 (by omega), hY.2.2.trans (hb3.mono (by omega))⟩
    have h1 := hY.1
    cases hq : inP bs with
    | error x => rw [hq] at h1; exact h1
    | ok q =>
      obtain ⟨l, t⟩ := q
      rw [hq] at h1
      obtain ⟨rfl, A, d, g1, g2, g3⟩ := h1
      exact ⟨rfl, A, d, g1.below hb3 (by omega), Pk.ok_keep g2 g3 (fun b hb hl => hk3 b hl (by omega) (by omega)) hb3.size, g3⟩
section
variable (A : Option Addr) (n cp : Nat) (W : World)
set_option maxRecDepth 20000 in
set_option maxHeartbeats 4000000 in
theorem inread_long (hl : 1800 < n) :
    Calls Tryz.prog 9 #[.slice A n cp] W fun e W' => e = .returned (.tuple #[.agg zinA, .int .i64 3]) ∧ Below W.heap.size W W' := by
  have hg := Blk.new W 48 zinA
  have HB := Lib.hid ((Below.refl W.heap.size W).alloc (Nat.le_refl _) (.cells zinA 48))
  have hgt : decide ((1800 : Int) < (n : Nat)) = true := by rw [decide_eq_true_iff]; omega
  have hbu := built_no
  clear hl
  go_enter Tryz.func9, Tryz.ntmps9
  go_wp2_with (first | (refine wpList_build_lit zinA rfl 48 _ rfl hbu ?_) | (refine wpList_store_blk rfl 48 _ _ rfl W.heap.size 48 _ zinA rfl rfl hg zin_sz rfl zin_one ?_; intro hrow))
  refine bodyPost_row2 (t := 48) zinL (.int .i64 3) rfl rfl rfl rfl Tryz.underlying48 rfl zin_info hrow ⟨rfl, below_setRow HB.out (Nat.le_refl _) _⟩
variable (bs : List Nat) (hn : bs.length = n) (hnc : n ≤ cp) (hby : ∀ x ∈ bs, x < 256) (hbs : Byt.ByR W A bs)
include hn hnc hby hbs
set_option maxRecDepth 20000 in
set_option maxHeartbeats 4000000 in
theorem inread_yes (hl : n ≤ 1800) (l : Iv) (h : inP bs = .ok (l, [])) :
    Calls Tryz.prog 9 #[.slice A n cp] W fun e W' => ∃ A' c', e = .returned (.tuple #[.agg (l.at A' c').cells.toArray, .int .i64 0]) ∧ (l.at A' c').x.Ok W' ∧ Below W.heap.size W W' := by
  have HC := Lib.hid (inread_call A n cp W bs hn hnc hby (by omega) hbs)
  have hmf : ∀ (fn : Fn) (first cap : Array Value) (w : World), (Instr.makeFunc fn first cap).run Tryz.prog w = .ok (.func fn first cap) w := fun _ _ _ _ => rfl
  have HP := Lib.hid h
  have hgt : decide ((1800 : Int) < (n : Nat)) = false := by rw [decide_eq_false_iff_not]; omega
  clear hn hnc hbs h hby hl
  go_enter Tryz.func9, Tryz.ntmps9
  go_wp2_with (first | (refine wpList_load_midg (by rfl) 48 _ rfl _ _ rfl (Iv.cells ?_) _ ?_ Tryz.underlying48 rfl (ivinfo _) ?_; rotate_left; (focus assumption)) | (refine wpList_store_blk rfl 48 _ _ rfl W.heap.size 48 _ (l.at A' d).cells.toArray rfl rfl hg (ivinfoA _) (zin_siz _) (iv_one _) ?_; intro hrow) | (go_at_call 20; refine HC.out.mono ?_; rintro e W1 ⟨r, rfl, hR⟩; unfold InRead at hR; rw [HP.out] at hR; obtain ⟨⟨rfl, A', d, hc, hok, hlow⟩, hg, hb⟩ := hR; have rgl := hc.range; have HB := Lib.hid (And.intro hb hok); clear hb hok hlow; rw [show readE (.ok []) = 0 from rfl]))
  refine bodyPost_row2 (t := 48) (l.at A' d).cells (.int .i64 0) rfl rfl rfl rfl Tryz.underlying48 rfl (ivinfo _) hrow ⟨A', d, rfl, ?_, below_setRow HB.out.1 (Nat.le_refl _) _⟩
  exact pc_far (cs := zinL) HB.out.2 hg zin_nou (fun j hj => setRow_other W1 W.heap.size j _ hj) (by simp)
set_option maxRecDepth 20000 in
set_option maxHeartbeats 4000000 in
theorem inread_no (hl : n ≤ 1800) (h : ∀ l, inP bs ≠ .ok (l, [])) :
    Calls Tryz.prog 9 #[.slice A n cp] W fun e W' => e = .returned (.tuple #[.agg zinA, .int .i64 3]) ∧ Below W.heap.size W W' := by
  have HC := Lib.hid (inread_call A n cp W bs hn hnc hby (by omega) hbs)
  have hmf : ∀ (fn : Fn) (first cap : Array Value) (w : World), (Instr.makeFunc fn first cap).run Tryz.prog w = .ok (.func fn first cap) w := fun _ _ _ _ => rfl
  have hgt : decide ((1800 : Int) < (n : Nat)) = false := by rw [decide_eq_false_iff_not]; omega
  have hbu := built_no
  have HP := Lib.hid (show ∀ r W', InRead bs W r W' → ∃ z : Int, readE r = z ∧ decide (z = 0) = false from fun r W' hR => by
    have h1 := hR.1
    refine ⟨readE r, rfl, decide_eq_false ?_⟩
    cases hq : inP bs with
    | error x => rw [hq] at h1; subst h1; exact inP_ne bs x hq
    | ok q =>
      obtain ⟨l, t⟩ := q
      rw [hq] at h1
      obtain ⟨rfl, _⟩ := h1
      cases t with
      | nil => exact absurd hq (h l)
      | cons a t => unfold readE; simp)
  clear hn hnc hbs h hby hl
  go_enter Tryz.func9, Tryz.ntmps9
  go_wp2_with fail
  refine HC.out.mono ?_
  rintro e W1 ⟨r, rfl, hR⟩
  obtain ⟨z, hz, hz0⟩ := HP.out r W1 hR
  obtain ⟨_, hg, hb⟩ := hR
  have HB := Lib.hid hb
  have hz2 : z ≠ 0 := by simpa using hz0
  have hz1 : (z != 0) = true := by simpa using hz2
  have hz3 : (z == 0) = false := by simpa using hz2
  rw [hz]
  clear hb hz hz0 HP HC
  go_wp2_with (first | (refine wpList_build_lit zinA rfl 48 _ rfl hbu ?_) | (refine wpList_store_blk rfl 48 _ _ rfl W.heap.size 48 _ zinA rfl rfl hg zin_sz rfl zin_one ?_; intro hrow))
  refine bodyPost_row2 (t := 48) zinL (.int .i64 3) rfl rfl rfl rfl Tryz.underlying48 rfl zin_info hrow ⟨rfl, below_setRow HB.out (Nat.le_refl _) _⟩
end
end In
end Go.Proofs.YtgnfachjobohoaaGreat
namespace Go.Proofs.YtgnfachjobohoaaGreat
open Go.RowKit Go.ChangeShapes Go.WideShapes Go.ChangeAt
set_option linter.unusedSimpArgs false
set_option linter.unusedVariables false
namespace In
theorem fill_scI {place : Nat → Option (Nat × Nat)} {i off : Nat} {v m : Value} {pre post : List Value} {rest : List (Nat × Value)} (h : place i = some (off, 1)) (hv : v.cells = #[v]) (hp : pre.length = off) :
    Instr.fill place (pre ++ (m :: post)).toArray ((i, v) :: rest) = Instr.fill place (pre ++ (v :: post)).toArray rest := by
  have h1 := fill_one (place := place) (i := i) (off := off) (cs := [v]) (pre := pre) (mid := [m]) (post := post) (rest := rest) h hp rfl
  have h2 : Instr.fill place (pre ++ (m :: post)).toArray ((i, v) :: rest) = Instr.fill place (pre ++ (m :: post)).toArray ((i, .agg [v].toArray) :: rest) := by
    have hv2 : (Value.agg [v].toArray).cells = v.cells := by rw [hv]; rfl
    rw [Instr.fill, Instr.fill, h]
    dsimp only
    rw [hv2]
  exact h2.trans h1
def pI : Nat → Option (Nat × Nat) := (#[(0, 1), (1, 1), (2, 1), (3, 1), (4, 12), (16, 1), (17, 4), (21, 5)][·]?)
theorem built_fillI (parts : List (Nat × Value)) : Tryz.prog.built 48 parts = Instr.fill pI (zI 0).cells.toArray parts := by rw [zI_cells]; kernel_rfl
theorem p0I : pI 0 = some (0, 1) := rfl
theorem p1I : pI 1 = some (1, 1) := rfl
theorem p2I : pI 2 = some (2, 1) := rfl
theorem p3I : pI 3 = some (3, 1) := rfl
theorem p4I : pI 4 = some (4, 12) := rfl
theorem p5I : pI 5 = some (16, 1) := rfl
theorem p6I : pI 6 = some (17, 4) := rfl
theorem p7I : pI 7 = some (21, 5) := rfl
attribute [irreducible] pI
section
variable (m : Iv) (rest : List (Nat × Value))
theorem iv_arr : m.cells.toArray = (.int .i64 m.k :: .int .i64 m.ca :: .int .i64 m.se :: .int .i64 m.no :: (vl m.f ++ ([.int .u64 (m.t : Nat)] ++ (m.o.cells ++ m.x.cells)))).toArray := by
  rw [iv_def]; unfold Iv.hd; simp [List.append_assoc]
theorem fill_k (v : Int) : Instr.fill pI m.cells.toArray ((0, .int .i64 v) :: rest) = Instr.fill pI ({ m with k := v } : Iv).cells.toArray rest := by
  rw [iv_arr, iv_arr]; exact fill_scI (pre := []) p0I rfl rfl
theorem fill_ca (v : Int) : Instr.fill pI m.cells.toArray ((1, .int .i64 v) :: rest) = Instr.fill pI ({ m with ca := v } : Iv).cells.toArray rest := by
  rw [iv_arr, iv_arr]; exact fill_scI (pre := [_]) p1I rfl rfl
theorem fill_se (v : Int) : Instr.fill pI m.cells.toArray ((2, .int .i64 v) :: rest) = Instr.fill pI ({ m with se := v } : Iv).cells.toArray rest := by
  rw [iv_arr, iv_arr]; exact fill_scI (pre := [_, _]) p2I rfl rfl
theorem fill_no (v : Int) : Instr.fill pI m.cells.toArray ((3, .int .i64 v) :: rest) = Instr.fill pI ({ m with no := v } : Iv).cells.toArray rest := by
  rw [iv_arr, iv_arr]; exact fill_scI (pre := [_, _, _]) p3I rfl rfl
theorem fill_f (f : Nat → Nat) : Instr.fill pI m.cells.toArray ((4, .agg (vl f).toArray) :: rest) = Instr.fill pI ({ m with f := f } : Iv).cells.toArray rest := by
  have := fill_one (place := pI) (i := 4) (off := 4) (cs := vl f) (pre := m.hd) (mid := vl m.f) (post := [.int .u64 (m.t : Nat)] ++ (m.o.cells ++ m.x.cells)) (rest := rest) (by rw [p4I, vl_len]) (hd_len m) (by rw [vl_len, vl_len])
  rw [iv_def, iv_def]
  exact this
theorem fill_t (n : Nat) : Instr.fill pI m.cells.toArray ((5, .int .u64 (n : Nat)) :: rest) = Instr.fill pI ({ m with t := n } : Iv).cells.toArray rest := by
  have := fill_scI (place := pI) (i := 5) (off := 16) (v := .int .u64 (n : Nat)) (m := .int .u64 (m.t : Nat)) (pre := m.hd ++ vl m.f) (post := m.o.cells ++ m.x.cells) (rest := rest) p5I rfl (by rw [List.length_append, hd_len, vl_len])
  rw [iv_def, iv_def]
  simp only [List.append_assoc] at this
  exact this
theorem fill_o (o : OpR) : Instr.fill pI m.cells.toArray ((6, .agg o.cells.toArray) :: rest) = Instr.fill pI ({ m with o := o } : Iv).cells.toArray rest := by
  have := fill_one (place := pI) (i := 6) (off := 17) (cs := o.cells) (pre := m.hd ++ (vl m.f ++ [.int .u64 (m.t : Nat)])) (mid := m.o.cells) (post := m.x.cells) (rest := rest) (by rw [p6I, op_len]) (by simp only [List.length_append, hd_len, vl_len]; rfl) (by rw [op_len, op_len])
  rw [iv_def, iv_def]
  simp only [List.append_assoc] at this
  exact this
theorem fill_x (x : Pk.Pc) : Instr.fill pI m.cells.toArray ((7, .agg x.cells.toArray) :: rest) = Instr.fill pI ({ m with x := x } : Iv).cells.toArray rest := by
  have := fill_one (place := pI) (i := 7) (off := 21) (cs := x.cells) (pre := m.hd ++ (vl m.f ++ ([.int .u64 (m.t : Nat)] ++ m.o.cells))) (mid := m.x.cells) (post := []) (rest := rest) (by rw [p7I, Pk.pc_len]) (by simp only [List.length_append, hd_len, vl_len, op_len]; rfl) (by rw [Pk.pc_len, Pk.pc_len])
  rw [iv_def, iv_def]
  simp only [List.append_assoc, List.append_nil] at this
  exact this
end
theorem built_all (m : Iv) : Tryz.prog.built 48 [(0, .int .i64 m.k), (1, .int .i64 m.ca), (2, .int .i64 m.se), (3, .int .i64 m.no), (4, .agg (vl m.f).toArray), (5, .int .u64 (m.t : Nat)), (6, .agg m.o.cells.toArray), (7, .agg m.x.cells.toArray)] = some m.cells.toArray := by
  rw [built_fillI, fill_k, fill_ca, fill_se, fill_no, fill_f, fill_t, fill_o, fill_x, Instr.fill]
/-- An input as plain data. -/
def Iv.plain (m : Iv) : List Value := m.hd ++ (vl m.f ++ ([.int .u64 (m.t : Nat)] ++ (m.o.plain ++ m.x.cells)))
theorem pl_len (m : Iv) : (Iv.plain m).length = 26 := by unfold Iv.plain; simp only [List.length_append, hd_len, vl_len, plain_len, Pk.pc_len, List.length_cons, List.length_nil]
theorem pl_def (m : Iv) : Iv.plain m = m.hd ++ (vl m.f ++ ([.int .u64 (m.t : Nat)] ++ (m.o.plain ++ m.x.cells))) := by unfold Iv.plain; rfl
theorem pl_0 (m : Iv) (j : Nat) (h : j < 4) : (Iv.plain m)[j]? = m.hd[j]? := by
  unfold Iv.plain
  rw [List.getElem?_append_left (by rw [hd_len]; exact h)]
theorem pl_f (m : Iv) (j : Nat) (h : j < 12) : (Iv.plain m)[4 + j]? = (vl m.f)[j]? := by
  unfold Iv.plain
  exact mid_get (hd_len m) (vl_len m.f) j h
theorem pl_t (m : Iv) : (Iv.plain m)[16]? = some (.int .u64 (m.t : Nat)) := by
  unfold Iv.plain
  rw [← List.append_assoc]
  exact mid_get (o := 16) (by rw [List.length_append, hd_len, vl_len]) (show [Value.int .u64 (m.t : Nat)].length = 1 from rfl) 0 (by omega)
theorem pl_o (m : Iv) (j : Nat) (h : j < 4) : (Iv.plain m)[17 + j]? = m.o.plain[j]? := by
  unfold Iv.plain
  rw [← List.append_assoc, ← List.append_assoc]
  exact mid_get (by simp only [List.length_append, hd_len, vl_len]; rfl) plain_len j h
theorem pl_x (m : Iv) (j : Nat) : (Iv.plain m)[21 + j]? = m.x.cells[j]? := by
  unfold Iv.plain
  rw [← List.append_assoc, ← List.append_assoc, ← List.append_assoc, List.getElem?_append_right (by simp only [List.length_append, hd_len, vl_len, plain_len]; simp)]
  simp only [List.length_append, hd_len, vl_len, plain_len, List.length_cons, List.length_nil]
  rw [show 21 + j - (4 + 12 + (0 + 1) + 4) = j from by omega]
attribute [irreducible] Iv.plain
theorem plinfo (m : Iv) : (Tryz.prog.info? 32).map (·.size) = some (Iv.plain m).length := by rw [pl_len]; kernel_rfl
theorem pl_all {W : World} {b : Nat} {t : TypeId} {m : Iv} (h : Blk W b t (Iv.plain m).toArray) :
    W.rangeAt b 0 (Iv.plain m) ∧ W.rangeAt b 4 (vl m.f) ∧ W.rangeAt b 17 m.o.plain ∧ W.rangeAt b 21 m.x.cells ∧ W.cell? ⟨b, 0, none⟩ = some (.int .i64 m.k) ∧ W.cell? ⟨b, 1, none⟩ = some (.int .i64 m.ca) ∧ W.cell? ⟨b, 2, none⟩ = some (.int .i64 m.se) ∧ W.cell? ⟨b, 3, none⟩ = some (.int .i64 m.no) ∧ W.cell? ⟨b, 16, none⟩ = some (.int .u64 (m.t : Nat)) := by
  have hc : ∀ i, W.cell? ⟨b, i, none⟩ = (Iv.plain m)[i]? := fun i => by rw [h.cell, List.getElem?_toArray]
  refine ⟨h.range, fun j v hv => ?_, fun j v hv => ?_, fun j v hv => by rw [hc, pl_x, hv], (hc 0).trans (pl_0 m 0 (by omega)), (hc 1).trans (pl_0 m 1 (by omega)), (hc 2).trans (pl_0 m 2 (by omega)), (hc 3).trans (pl_0 m 3 (by omega)), (hc 16).trans (pl_t m)⟩
  · have hj : j < 12 := by have := (List.getElem?_eq_some_iff.1 hv).1; rwa [vl_len] at this
    rw [hc, pl_f m j hj, hv]
  · have hj : j < 4 := by have := (List.getElem?_eq_some_iff.1 hv).1; rwa [plain_len] at this
    rw [hc, pl_o m j hj, hv]
set_option maxRecDepth 20000 in
set_option maxHeartbeats 4000000 in
theorem plaininput_any (m : Iv) (W : World) : Calls Tryz.prog 8 #[.agg (Iv.plain m).toArray] W fun e W' => e = .returned (.agg m.cells.toArray) ∧ Below W.heap.size W W' := by
  have bA := (Blk.new W 32 (Iv.plain m).toArray).alloc (.cells zinA 48)
  have bR : Blk ((W.alloc (.cells (Iv.plain m).toArray 32)).alloc (.cells zinA 48)) (W.heap.size + 1) 48 zinA := Blk.new' (by simp)
  have hB := ((Below.refl W.heap.size W).alloc (Nat.le_refl _) (.cells (Iv.plain m).toArray 32)).alloc (by simp) (.cells zinA 48)
  obtain ⟨w1, hw1⟩ : ∃ w1, w1 = (W.alloc (.cells (Iv.plain m).toArray 32)).alloc (.cells zinA 48) := ⟨_, rfl⟩
  rw [← hw1] at bA bR hB
  have HW1 := Lib.hid hw1
  have HA := Lib.hid bA
  have HR := Lib.hid bR
  have HB := Lib.hid hB
  obtain ⟨-, rf, ro, rx, c0, c1, c2, c3, ct⟩ := pl_all bA
  have hbl := built_all m
  have HP := Lib.hid (fun w => plainop_any m.o w)
  clear bA bR hB hw1
  go_enter Tryz.func8, Tryz.ntmps8
  go_upto_region 1 with fail
  rw [← HW1.out]
  clear HW1
  refine wp_region_tree (S := (fun w' => Below W.heap.size W w' ∧ w'.cell? ⟨W.heap.size, 0, none⟩ = some (.int .i64 m.k) ∧ w'.cell? ⟨W.heap.size, 1, none⟩ = some (.int .i64 m.ca) ∧ w'.cell? ⟨W.heap.size, 2, none⟩ = some (.int .i64 m.se) ∧ w'.cell? ⟨W.heap.size, 3, none⟩ = some (.int .i64 m.no) ∧ w'.cell? ⟨W.heap.size, 16, none⟩ = some (.int .u64 (m.t : Nat)) ∧ w'.rangeAt W.heap.size 4 (vl m.f) ∧ w'.rangeAt W.heap.size 17 m.o.plain ∧ w'.rangeAt W.heap.size 21 m.x.cells)) (.take 0 (.take 1 (.take 2 (.take 3 (.take 4 (.take 5 (.take 6 (.take 7 (.take 8 (.take 9 (.take 10 (.take 11 (.take 12 (.take 13 (.take 15 (.take 16 (.one 14 (.take 17 (.one 18 .nil))))))))))))))))))) 9999 (by kernel_rfl) (by kernel_rfl) (by kernel_rfl) (by kernel_rfl) (by kernel_rfl) (fun _ _ d _ _ h => by cases d <;> exact h) ⟨HB.out.drew, c0, c1, c2, c3, ct, rf, ro, rx⟩ (fun hHeld => ?_); simp only [Tree.map, List.getElem?_toArray, List.getElem?_cons_zero, List.getElem?_cons_succ]
  (repeat (first | (refine wpTree.take (v := undef) (Or.inr ⟨by rfl, rfl⟩) ?_; simp only [Act.put, List.setIfInBounds_toArray, List.set_cons_zero, List.set_cons_succ]) | (refine wpTree.take (v := .agg (vl ?_).toArray) (yieldsIf_load_mid rfl 24 _ rfl _ _ rfl (vl _) _ ?_ Tryz.underlying24 rfl (vinfoL _)) ?_; rotate_left; (focus (intro _ hS; (try dsimp only at hS); go_split_ands; (first | assumption | exact Blk.range (by assumption)))); simp only [Act.put, List.setIfInBounds_toArray, List.set_cons_zero, List.set_cons_succ]) | (refine wpTree.take (v := .agg (OpR.plain ?_).toArray) (yieldsIf_load_mid rfl 27 _ rfl _ _ rfl (OpR.plain _) _ ?_ Tryz.underlying27 rfl (pinfoL _)) ?_; rotate_left; (focus (intro _ hS; exact hS.2.2.2.2.2.2.2.1)); simp only [Act.put, List.setIfInBounds_toArray, List.set_cons_zero, List.set_cons_succ]) | (refine wpTree.take (v := .agg (Pk.Pc.cells ?_).toArray) (yieldsIf_load_mid rfl 30 _ rfl _ _ rfl (Pk.Pc.cells _) _ ?_ Tryz.underlying30 rfl (Pk.pcinfo _)) ?_; rotate_left; (focus (intro _ hS; exact hS.2.2.2.2.2.2.2.2)); simp only [Act.put, List.setIfInBounds_toArray, List.set_cons_zero, List.set_cons_succ]) | (refine wpTree.take (v := ?_) (Or.inl ⟨by rfl, ?_⟩) ?_; rotate_left; (focus (intro _ hS; (try dsimp only at hS); go_split_ands; (try subst hS); go_simp; (try (with_reducible rfl)); done)); simp only [Act.put, List.setIfInBounds_toArray, List.set_cons_zero, List.set_cons_succ])))
  refine wpTree.one (fun K hK => ?_)
  go_simp
  go_at_call 19
  refine (HP.out _).mono ?_
  rintro e w2 ⟨rfl, hb⟩
  have k2 : Below w1.heap.size w1 w2 := (Below.refl _ _).drew.trans hb
  obtain ⟨-, rf2, ro2, rx2, d0, d1, d2, d3, dt⟩ := pl_all (HA.out.next k2)
  refine hK.out _ _ ⟨HB.out.trans (k2.mono HB.out.size), d0, d1, d2, d3, dt, rf2, ro2, rx2⟩ (fun _ => ?_)
  clear hK K hb hHeld rf ro rx c0 c1 c2 c3 ct
  (try simp only [Act.put, List.setIfInBounds_toArray, List.set_cons_zero, List.set_cons_succ])
  refine wpTree.take (yields_build' m.cells.toArray rfl 48 _ rfl hbl) ?_
  (try simp only [Act.put, List.setIfInBounds_toArray, List.set_cons_zero, List.set_cons_succ])
  have HR2 := Lib.hid (HR.out.next k2)
  have HB2 := Lib.hid (HB.out.trans (k2.mono HB.out.size))
  refine wpTree.one (fun K hK => ?_)
  refine step_store_blk (by rfl) 48 _ _ rfl (W.heap.size + 1) 48 zinA m.cells.toArray rfl rfl HR2.out (ivinfoA m) (zin_siz m) (iv_one m) ?_
  have hb3 := below_setRow HB2.out (show W.heap.size ≤ W.heap.size + 1 by omega) m.cells.toArray
  have hS3 := below_setRow (Below.refl (W.heap.size + 1) w2) (Nat.le_refl _) m.cells.toArray
  have hrow := HR2.out.setRow m.cells.toArray
  obtain ⟨-, rf3, ro3, rx3, g0, g1, g2, g3, gt⟩ := pl_all (blk_below (HA.out.next k2) hS3 (Nat.lt_succ_self _))
  refine hK.out _ _ ⟨hb3, g0, g1, g2, g3, gt, rf3, ro3, rx3⟩ (fun _ => ?_)
  clear hK K
  refine wpTree.done ?_
  clear hS3 rf2 ro2 rx2 d0 d1 d2 d3 dt rf3 ro3 rx3 g0 g1 g2 g3 gt k2 HR HA HB
  go_wp2_with fail
  exact bodyPost_row (t := 48) m.cells.toArray rfl rfl rfl Tryz.underlying48 rfl (ivinfoA _) hrow ⟨rfl, hb3⟩
section
variable {H : Type} {enc : TypeId × Value → H} {w : World}
theorem cells_pl : Tryz.prog.cellsOf 32 = 26 := by kernel_rfl
structure Iv.Bd (m : Iv) : Prop where
  k : -9223372036854775808 ≤ m.k ∧ m.k ≤ 9223372036854775807
  ca : -9223372036854775808 ≤ m.ca ∧ m.ca ≤ 9223372036854775807
  se : -9223372036854775808 ≤ m.se ∧ m.se ≤ 9223372036854775807
  no : -9223372036854775808 ≤ m.no ∧ m.no ≤ 9223372036854775807
  f : ∀ i, m.f i < 4294967296
  t : m.t < 18446744073709551616
  o : m.o.Ok
theorem Iv.Bd.ok {m : Iv} (h : m.Bd) : m.Ok := ⟨h.f, h.t, h.o.p⟩
set_option maxRecDepth 100000 in
theorem open_pl_cells {base fuel : Nat} {hd : Bool} {cs : List Value} {x : DataW H × List MemPlace} (h : DataW.trod enc Tryz.prog w base (fun _ => true) hd fuel 32 cs = some x) (hlt : ∀ y ∈ x.2, y.block < w.heap.size) : ∃ m : Iv, cs = Iv.plain m ∧ m.Bd ∧ m.x.Ok w := by
  obtain ⟨xs, m, _, hx, hcl, hlen, hg⟩ := DataW.trod_struct Tryz.underlying32 h
  rw [cells_pl] at hcl
  have g0 : DataW.trod enc Tryz.prog w base (fun _ => true) hd m 3 ((cs.drop 0).take (Tryz.prog.cellsOf 3)) = xs[0]? := hg 0 _ rfl
  have g1 : DataW.trod enc Tryz.prog w base (fun _ => true) hd m 3 ((cs.drop 1).take (Tryz.prog.cellsOf 3)) = xs[1]? := hg 1 _ rfl
  have g2 : DataW.trod enc Tryz.prog w base (fun _ => true) hd m 3 ((cs.drop 2).take (Tryz.prog.cellsOf 3)) = xs[2]? := hg 2 _ rfl
  have g3 : DataW.trod enc Tryz.prog w base (fun _ => true) hd m 3 ((cs.drop 3).take (Tryz.prog.cellsOf 3)) = xs[3]? := hg 3 _ rfl
  have g4 : DataW.trod enc Tryz.prog w base (fun _ => true) hd m 24 ((cs.drop 4).take (Tryz.prog.cellsOf 24)) = xs[4]? := hg 4 _ rfl
  have g5 : DataW.trod enc Tryz.prog w base (fun _ => true) hd m 25 ((cs.drop 16).take (Tryz.prog.cellsOf 25)) = xs[5]? := hg 5 _ rfl
  have g6 : DataW.trod enc Tryz.prog w base (fun _ => true) hd m 27 ((cs.drop 17).take (Tryz.prog.cellsOf 27)) = xs[6]? := hg 6 _ rfl
  have g7 : DataW.trod enc Tryz.prog w base (fun _ => true) hd m 30 ((cs.drop 21).take (Tryz.prog.cellsOf 30)) = xs[7]? := hg 7 _ rfl
  have hlen8 : xs.length = 8 := hlen
  clear hg hlen
  rw [cells_int] at g0 g1 g2 g3
  rw [cells_vec] at g4
  rw [cells_u64] at g5
  rw [cells_plain] at g6
  rw [Pk.cells_pk] at g7
  rw [List.getElem?_eq_getElem (by omega)] at g0 g1 g2 g3 g4 g5 g6 g7
  obtain ⟨k, e0, _, w0⟩ := DataW.trod_int Tryz.underlying3 g0
  obtain ⟨ca, e1, _, w1⟩ := DataW.trod_int Tryz.underlying3 g1
  obtain ⟨se, e2, _, w2⟩ := DataW.trod_int Tryz.underlying3 g2
  obtain ⟨no, e3, _, w3⟩ := DataW.trod_int Tryz.underlying3 g3
  obtain ⟨f, e4, hf⟩ := vec_trod g4
  obtain ⟨t0, e5, _, w5⟩ := DataW.trod_int Tryz.underlying25 g5
  obtain ⟨t, rfl, ht⟩ := bound_u64 w5
  obtain ⟨o, e6, ho⟩ := open_plain_cells g6
  obtain ⟨p, e7, hp⟩ := Pk.open_pk g7 (fun y hy => hlt y (by rw [hx]; exact List.mem_flatMap.2 ⟨xs[7], List.getElem_mem (by omega), hy⟩))
  refine ⟨⟨k, ca, se, no, f, t, o, p⟩, ?_, ⟨bounds_i64 w0, bounds_i64 w1, bounds_i64 w2, bounds_i64 w3, hf, ht, ho⟩, hp⟩
  rw [pl_def]
  rw [List.take_of_length_le (by rw [List.length_drop]; omega)] at e7
  have s0 : cs = cs.take 4 ++ cs.drop 4 := (List.take_append_drop 4 cs).symm
  have s1 : cs.drop 4 = (cs.drop 4).take 12 ++ cs.drop 16 := by have := (List.take_append_drop 12 (cs.drop 4)).symm; rwa [List.drop_drop] at this
  have s2 : cs.drop 16 = (cs.drop 16).take 1 ++ cs.drop 17 := by have := (List.take_append_drop 1 (cs.drop 16)).symm; rwa [List.drop_drop] at this
  have s4 : cs.drop 17 = (cs.drop 17).take 4 ++ cs.drop 21 := by have := (List.take_append_drop 4 (cs.drop 17)).symm; rwa [List.drop_drop] at this
  have s3 : cs.take 4 = [.int .i64 k, .int .i64 ca, .int .i64 se, .int .i64 no] := by
    match cs, hcl, e0, e1, e2, e3 with
    | a :: b :: c :: d :: r, _, e0, e1, e2, e3 =>
      simp only [List.drop_zero, List.take_succ_cons, List.take_zero, List.drop_succ_cons] at e0 e1 e2 e3 ⊢
      rw [(List.cons.inj e0).1, (List.cons.inj e1).1, (List.cons.inj e2).1, (List.cons.inj e3).1]
  rw [s0, s1, s2, s4, s3, e4, e5, e6, e7]
  rfl
set_option maxRecDepth 100000 in
theorem open_pl {r : Reach} {b0 base : Nat} {hd : Bool} {v : Value} {d : DataW H} {p : List MemPlace} (hv : Value.okWide Tryz.prog w r b0 32 v) (h : DataW.Trod enc Tryz.prog w base (fun _ => true) hd 32 v d p) (hlt : ∀ y ∈ p, y.block < w.heap.size) :
    ∃ m : Iv, v = .agg (Iv.plain m).toArray ∧ m.Bd ∧ m.x.Ok w := by
  obtain ⟨cs, rfl, _⟩ := okWide_struct Tryz.underlying32 hv
  obtain ⟨fuel, hf⟩ := h
  obtain ⟨l, e, hok⟩ := open_pl_cells hf hlt
  exact ⟨l, by rw [← e]; rfl, hok⟩
end
set_option maxRecDepth 20000 in
theorem great26_any (m : Iv) (W : World) : Calls Tryz.prog 4 #[.agg (Iv.plain m).toArray] W fun e W' => e = .returned (.bool (decide ((1810 : Int) < (m.x.p.bs.length : Nat)))) ∧ Below W.heap.size W W' := by
  have bA := Blk.new W 32 (Iv.plain m).toArray
  have HB := Lib.hid ((Below.refl W.heap.size W).alloc (Nat.le_refl _) (.cells (Iv.plain m).toArray 32))
  obtain ⟨-, -, -, rx, -⟩ := pl_all bA
  have HG := Lib.hid (fun w => Pk.great_any w m.x)
  clear bA
  obtain ⟨z, hz⟩ : ∃ z, z = decide ((1810 : Int) < (m.x.p.bs.length : Nat)) := ⟨_, rfl⟩
  rw [← hz] at HG ⊢
  clear hz
  go_enter Tryz.func4, Tryz.ntmps4
  go_wp2_with (first | (refine wpList_load_midg (by rfl) 30 _ rfl _ _ rfl (Pk.Pc.cells ?_) _ ?_ Tryz.underlying30 rfl (Pk.pcinfo _) ?_; rotate_left; (focus assumption)) | (go_at_call 16; refine (HG.out _).mono ?_; rintro e w2 ⟨rfl, hb⟩; have HB2 := Lib.hid (HB.out.trans (hb.mono HB.out.size)); clear hb rx))
  go_ret
  exact ⟨rfl, HB2.out⟩
end In
end Go.Proofs.YtgnfachjobohoaaGreat

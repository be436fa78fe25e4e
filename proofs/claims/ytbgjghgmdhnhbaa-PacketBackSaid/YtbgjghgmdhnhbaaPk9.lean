/-
packet: a packet's bytes are read as it, in one way alone.
-/
import Derived.Test.YtbgjghgmdhnhbaaPk8
namespace Go.Proofs.Ytbgjghgmdhnhbaa
open Go.RowKit
set_option linter.unusedSimpArgs false
set_option linter.unusedVariables false
namespace Pk
theorem k_bind : kP = bindP getP kP2 := by
  funext bs; unfold kP bindP
  cases getP bs with
  | error e => rfl
  | ok z => rfl
theorem g_bind : getP = bindP (smallP 1) getP1 := by
  funext bs; unfold getP bindP
  cases smallP 1 bs with
  | error e => rfl
  | ok z => rfl
theorem g1_bind (a : Nat) : getP1 a = bindP (smallP 12) (getP2 a) := by
  funext bs; unfold getP1 bindP
  cases smallP 12 bs with
  | error e => rfl
  | ok z => rfl
theorem g2_bind (a f : Nat) : getP2 a f = bindP (smallP 12) (getP3 a f) := by
  funext bs; unfold getP2 bindP
  cases smallP 12 bs with
  | error e => rfl
  | ok z => rfl
theorem g3_bind (a f t : Nat) : getP3 a f t = bindP (numP true 0) (getP4 a f t) := by
  funext bs; unfold getP3 bindP
  cases numP true 0 bs with
  | error e => rfl
  | ok z => rfl
theorem g4_yes (f t q : Nat) : getP4 1 f t q = finP ⟨true, f, t, q, []⟩ := by funext bs; unfold getP4; rw [if_pos rfl]
theorem g4_no (f t q : Nat) : getP4 0 f t q = bindP (textP 1800) (fun x => finP ⟨false, f, t, q, x⟩) := by
  funext bs; unfold getP4 bindP
  rw [if_neg (by decide)]
  cases textP 1800 bs with
  | error e => rfl
  | ok z => rfl
theorem fin_back {p : Pt} (h : Rt p) : Back (finP p) [] p := by
  have e : finP p = fun bs => .ok (p, bs) := by funext bs; unfold finP; rw [if_pos (of_right h)]
  rw [e]; exact back_pure p
theorem get_back {p : Pt} (h : Rt p) : Back getP (encB p) p := by
  obtain ⟨k, f0, t0, q, bs⟩ := p
  obtain ⟨f, rfl⟩ : ∃ f : Nat, f0 = (f : Nat) := ⟨f0.toNat, by have := h.f1; dsimp only at this; omega⟩
  obtain ⟨t, rfl⟩ : ∃ t : Nat, t0 = (t : Nat) := ⟨t0.toNat, by have := h.t1; dsimp only at this; omega⟩
  have hf := h.f2
  have ht := h.t2
  have hq := h.q2
  dsimp only at hf ht hq
  have bf := small_back 12 f (by omega) (by omega)
  have bt := small_back 12 t (by omega) (by omega)
  have bq := num_back q (by omega)
  rw [g_bind]
  cases k with
  | true =>
    have hb : bs = [] := by
      have := h.d
      unfold dataB at this
      simpa using this
    subst hb
    have h4 := fin_back h
    rw [← g4_yes] at h4
    have h3 := bq.bind (Q := getP4 1 f t) h4
    rw [← g3_bind] at h3
    have h2 := bt.bind (Q := getP3 1 f) h3
    rw [← g2_bind] at h2
    have h1 := bf.bind (Q := getP2 1) h2
    rw [← g1_bind] at h1
    have h0 := (small_back 1 1 (by omega) (by omega)).bind (Q := getP1) h1
    have e : encB ⟨true, (f : Nat), (t : Nat), q, []⟩ = enc 1 ++ (enc f ++ (enc t ++ (enc q ++ []))) := by
      unfold encB ackN
      simp
    rw [e]; exact h0
  | false =>
    have hl := h.len
    dsimp only at hl
    have h5 := (text_back 1800 bs (by omega) (by omega)).bind (Q := fun x => finP ⟨false, (f : Nat), (t : Nat), q, x⟩) (fin_back h)
    rw [← g4_no] at h5
    have h3 := bq.bind (Q := getP4 0 f t) h5
    rw [← g3_bind] at h3
    have h2 := bt.bind (Q := getP3 0 f) h3
    rw [← g2_bind] at h2
    have h1 := bf.bind (Q := getP2 0) h2
    rw [← g1_bind] at h1
    have h0 := (small_back 1 0 (by omega) (by omega)).bind (Q := getP1) h1
    have e : encB ⟨false, (f : Nat), (t : Nat), q, bs⟩ = enc 0 ++ (enc f ++ (enc t ++ (enc q ++ (enc bs.length ++ bs ++ [])))) := by
      unfold encB ackN
      simp
    rw [e]; exact h0
theorem k_back {p : Pt} (h : Rt p) (h256 : ∀ y ∈ p.bs, y < 256) : Back kP (encP p) (p, Crc.sum (encB p)) := by
  have hs := Crc.sum_lt (encB_256 h256)
  have h2 : Back (kP2 p) (enc (Crc.sum (encB p))) (p, Crc.sum (encB p)) := by
    refine ⟨fun t => ?_, fun k hk => ?_⟩
    · unfold kP2; rw [numP_enc _ (by omega) t]; exact if_pos (by omega)
    · unfold kP2; rw [enc_cut _ k (by omega) hk]
  rw [k_bind]
  exact (get_back h).bind (Q := kP2) h2
theorem k_yes {p : Pt} (h : Rt p) (h256 : ∀ y ∈ p.bs, y < 256) : kP (encP p) = .ok ((p, Crc.sum (encB p)), []) := by
  have := (k_back h h256).1 []
  rwa [List.append_nil] at this
theorem k_less {p : Pt} (h : Rt p) (h256 : ∀ y ∈ p.bs, y < 256) (k : Nat) (hk : k < (encP p).length) (x : Pt) (m : Nat) : kP ((encP p).take k) ≠ .ok ((x, m), []) := by
  rw [(k_back h h256).2 k hk]
  intro e; cases e
theorem fin_ok {p x : Pt} {t u : List Nat} (h : finP p t = .ok (x, u)) : p = x ∧ t = u := by
  unfold finP at h
  split at h
  · simp only [Except.ok.injEq, Prod.mk.injEq] at h; exact h
  · cases h
theorem get_one {bs t : List Nat} {p : Pt} (hb : ∀ y ∈ bs, y < 256) (h : getP bs = .ok (p, t)) : bs = encB p ++ t ∧ ∀ y ∈ t, y < 256 := by
  unfold getP at h
  split at h
  · rename_i a t1 h1
    have i1 := small_in hb h1
    have a1 := (small_ok h1).2
    unfold getP1 at h
    split at h
    · rename_i f t2 h2
      have i2 := small_in i1 h2
      unfold getP2 at h
      split at h
      · rename_i t' t3 h3
        have i3 := small_in i2 h3
        unfold getP3 at h
        split at h
        · rename_i q t4 h4
          have i4 := numP_in i3 h4
          unfold getP4 at h
          split at h
          · rename_i ha
            obtain ⟨rfl, rfl⟩ := fin_ok h
            refine ⟨?_, i4⟩
            rw [small_one hb h1, small_one i1 h2, small_one i2 h3, num_one i3 h4, ha]
            unfold encB ackN
            simp
          · rename_i ha
            split at h
            · rename_i x t5 h5
              have i5 := textP_in i4 h5
              obtain ⟨rfl, rfl⟩ := fin_ok h
              refine ⟨?_, i5.2⟩
              have ha0 : a = 0 := by omega
              rw [small_one hb h1, small_one i1 h2, small_one i2 h3, num_one i3 h4, text_one i4 h5, ha0]
              unfold encB ackN
              simp
            · cases h
        · cases h
      · cases h
    · cases h
  · cases h
theorem k_one {bs : List Nat} {p : Pt} (hb : ∀ y ∈ bs, y < 256) (h : kP bs = .ok ((p, Crc.sum (encB p)), [])) : bs = encP p := by
  unfold kP at h
  split at h
  · rename_i p' t hg
    obtain ⟨h1, h2⟩ := get_one hb hg
    unfold kP2 at h
    split at h
    · rename_i s q hn
      split at h
      · simp only [Except.ok.injEq, Prod.mk.injEq] at h
        obtain ⟨⟨rfl, rfl⟩, rfl⟩ := h
        rw [h1, num_one h2 hn]
        unfold encP
        simp
      · cases h
    · cases h
  · cases h
end Pk
end Go.Proofs.Ytbgjghgmdhnhbaa

/-
wire: take of any many bytes; the reader's Text.
-/
import Derived.Test.YtnoeogbihjpacaaWrite3
import Derived.Test.YtnoeogbihjpacaaPlan
namespace Go.Proofs.Ytnoeogbihjpacaa
open Go.RowKit
variable {L : Nat}

theorem take_void (s c : Nat) (A : Option Addr) (W : World) (h : Rd W s (.slice A 0 c) 0 true) :
    Calls Try.prog 75 #[.pointer (some ⟨s, 0, none⟩), .int .i64 0] W fun e W' => e = .returned (.slice A 0 c) ∧ ∃ A', W' = W.setCell ⟨s, 0, none⟩ (.slice A' 0 c) := by
  obtain ⟨h0, h1, h2, hz⟩ := h
  have hz0 := hz 0
  clear hz h1 h2
  cases A with
  | none =>
    go_enter Try.func75, Try.ntmps75
    go_wp2
    go_ret
    exact ⟨rfl, _, rfl⟩
  | some a =>
    go_enter Try.func75, Try.ntmps75
    go_wp2
    all_goals go_ret
    all_goals exact ⟨rfl, _, rfl⟩

theorem take_many (s k : Nat) (bs : List Nat) (W : World) (h : RdB L W s bs) (hk : k ≤ bs.length) :
    Calls Try.prog 75 #[.pointer (some ⟨s, 0, none⟩), .int .i64 k] W fun e W' =>
      ∃ A c, e = .returned (.slice A k c) ∧ Src W' A k (u8s (bs.take k)) ∧ RdB L W' s (bs.drop k) ∧ Off s W W' := by
  obtain ⟨A, c, hR, hc, h⟩ := h
  rcases h with rfl | ⟨b, p, rfl, hb, ⟨hL, hlt⟩, hx⟩
  · obtain rfl : k = 0 := by simpa using hk
    refine (take_void s c A W hR).mono ?_
    rintro e W' ⟨rfl, A', rfl⟩
    refine ⟨A, c, rfl, ?_, ⟨A', c, hR.setRest _, by simp, Or.inl rfl⟩, (Off.refl s W).set 0 _⟩
    cases A with
    | none => exact Or.inr ⟨rfl, rfl, rfl⟩
    | some a => exact Or.inl ⟨a, rfl, fun j u hj => by simp [u8s] at hj⟩
  · refine (take_ok s bs.length c k b p 0 true W hR hk hc).mono ?_
    rintro e W' ⟨rfl, rfl⟩
    have hO : Off s W (W.setCell ⟨s, 0, none⟩ (.slice (some ⟨b, if c = k then p else p + k, none⟩) (bs.length - k) (c - k))) := (Off.refl s W).set 0 _
    have hR' := hR.setRest (.slice (some ⟨b, if c = k then p else p + k, none⟩) (bs.length - k) (c - k))
    refine ⟨_, c, rfl, Or.inl ⟨_, rfl, fun j u hj => ?_⟩, ⟨_, c - k, by rw [List.length_drop]; exact hR', by rw [List.length_drop]; omega, ?_⟩, hO⟩
    · obtain ⟨x, h1, rfl⟩ := u8s_get hj
      rw [add_plain, hO.cell (p := ⟨b, p + j, none⟩) hlt hb]
      rw [List.getElem?_take] at h1
      split at h1
      · exact hx j x h1
      · cases h1
    · by_cases h1 : c = k
      · left; exact List.length_eq_zero_iff.1 (by rw [List.length_drop]; omega)
      · right
        rw [if_neg h1] at hO ⊢
        refine ⟨b, p + k, rfl, hb, ⟨hL, Nat.lt_of_lt_of_le hlt hO.size⟩, fun i y hy => ?_⟩
        rw [hO.cell (p := ⟨b, p + k + i, none⟩) hlt hb]
        rw [List.getElem?_drop] at hy
        have := hx (k + i) y hy
        rwa [show p + (k + i) = p + k + i by omega] at this
theorem take_over (s k : Nat) (bs : List Nat) (W : World) (h : RdB L W s bs) (hk : bs.length < k) :
    Calls Try.prog 75 #[.pointer (some ⟨s, 0, none⟩), .int .i64 k] W fun e W' => e = .panicked [{ v := flt s, recovered := false }] ∧ Met' W' s 8 ∧ Off s W W' := by
  obtain ⟨A, c, hR, _, _⟩ := h
  refine (take_short s bs.length c k A 0 true W hR hk).mono ?_
  rintro e W' ⟨rfl, rfl⟩
  exact ⟨rfl, ⟨_, _, _, hR.setMet 8⟩, (Off.refl s W).set 1 _⟩

/-- What a text's bytes tell. -/
def textP (most : Int) (bs : List Nat) : Except Int (List Nat × List Nat) :=
  match smallP most bs with
  | .ok (v, t) => if v ≤ t.length then .ok (t.take v, t.drop v) else .error 8
  | .error x => .error x
def EndsT (L s : Nat) (W : World) (r : Except Int (List Nat × List Nat)) (e : Ending) (W' : World) : Prop :=
  Off s W W' ∧ match r with
  | .ok (x, t) => (∃ v, e = .returned v ∧ W'.ownsRow W.heap.size 5 1 v x.length (u8s x)) ∧ RdB L W' s t
  | .error x => e = .panicked [{ v := flt s, recovered := false }] ∧ Met' W' s x
end Go.Proofs.Ytnoeogbihjpacaa

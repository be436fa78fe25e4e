/-
wire: the reader's Float.
-/
import Derived.Test.YtbnapbjmffajfaaBack
import Derived.Test.YtbnapbjmffajfaaTot
import Derived.Laws.BitsAllLaws
namespace Go.Proofs.Ytbnapbjmffajfaa
open Go.RowKit
variable {L : Nat}

/-- How a part of a read ends, whatever it reads. -/
def EndsV {α : Type} (L s : Nat) (W : World) (val : α → Value) (r : Except Int (α × List Nat)) (e : Ending) (W' : World) : Prop :=
  Off s W W' ∧ match r with
  | .ok (v, t) => e = .returned (val v) ∧ RdB L W' s t
  | .error x => e = .panicked [{ v := flt s, recovered := false }] ∧ Met' W' s x

/-- take, where so many are left: where they stand. -/
theorem take_at (s k : Nat) (bs : List Nat) (W : World) (h : RdB L W s bs) (h0 : 0 < k) (hk : k ≤ bs.length) :
    Calls Try.prog 60 #[.pointer (some ⟨s, 0, none⟩), .int .i64 k] W fun e W' =>
      ∃ b p c, e = .returned (.slice (some ⟨b, p, none⟩) k c) ∧ (∀ (i x : Nat), (bs.take k)[i]? = some x → W'.cell? ⟨b, p + i, none⟩ = some (.int .u8 (x : Nat))) ∧ RdB L W' s (bs.drop k) ∧ Off s W W' := by
  obtain ⟨A, c, hR, hc, h⟩ := h
  rcases h with rfl | ⟨b, p, rfl, hb, ⟨hL, hlt⟩, hx⟩
  · simp at hk; omega
  · refine (take_ok s bs.length c k b p 0 true W hR hk hc).mono ?_
    rintro e W' ⟨rfl, rfl⟩
    have hO : Off s W (W.setCell ⟨s, 0, none⟩ (.slice (some ⟨b, if c = k then p else p + k, none⟩) (bs.length - k) (c - k))) := (Off.refl s W).set 0 _
    have hR' := hR.setRest (.slice (some ⟨b, if c = k then p else p + k, none⟩) (bs.length - k) (c - k))
    refine ⟨b, p, c, rfl, fun i x hx1 => ?_, ⟨_, c - k, by rw [List.length_drop]; exact hR', by rw [List.length_drop]; omega, ?_⟩, hO⟩
    · rw [hO.cell (p := ⟨b, p + i, none⟩) hlt hb]
      rw [List.getElem?_take] at hx1
      split at hx1
      · exact hx i x hx1
      · cases hx1
    · by_cases h1 : c = k
      · left; exact List.length_eq_zero_iff.1 (by rw [List.length_drop]; omega)
      · right
        rw [if_neg h1] at hO ⊢
        refine ⟨b, p + k, rfl, hb, ⟨hL, Nat.lt_of_lt_of_le hlt hO.size⟩, fun i y hy => ?_⟩
        rw [hO.cell (p := ⟨b, p + k + i, none⟩) hlt hb]
        rw [List.getElem?_drop] at hy
        have := hx (k + i) y hy
        rwa [show p + (k + i) = p + k + i by omega] at this

theorem beN_take (bs : List Nat) (i x : Nat) (h : bs[i]? = some x) : beN (bs.take (i + 1)) = beN (bs.take i) * 256 + x := by
  rw [List.take_add_one, h]
  simp [beN, List.foldl_append]
theorem beN_lt : ∀ (bs : List Nat), (∀ x ∈ bs, x < 256) → beN bs < 256 ^ bs.length := by
  intro bs
  unfold beN
  have : ∀ (l : List Nat) (k n : Nat), k < 256 ^ n → (∀ x ∈ l, x < 256) → l.foldl (fun k c => k * 256 + c) k < 256 ^ (n + l.length) := by
    intro l
    induction l with
    | nil => intro k n h _; simpa using h
    | cons c l ih =>
      intro k n h hb
      have hc := hb c (by simp)
      have := ih (k * 256 + c) (n + 1) (by rw [Nat.pow_succ]; omega) (fun x hx => hb x (by simp [hx]))
      rw [List.length_cons, show n + (l.length + 1) = n + 1 + l.length by omega]
      exact this
  intro hb
  have h := this bs 0 0 (by simp) hb
  simpa using h
theorem or_low8 (n c : Nat) (hn : n * 256 < 18446744073709551616) (hc : c < 256) : bits .or .u64 ((n * 256 : Nat) : Int) (c : Int) = ((n * 256 + c : Nat) : Int) := by
  rw [u64_or_nat _ _ hn (by omega)]
  congr 1
  rw [show n * 256 = n <<< 8 by rw [Nat.shiftLeft_eq]]
  exact (Nat.shiftLeft_add_eq_or_of_lt (by omega) n).symm
def BeFar (bs : List Nat) (k : Nat) (x : Value) : Prop := x = .int .u64 (beN (bs.take k) : Nat)

end Go.Proofs.Ytbnapbjmffajfaa

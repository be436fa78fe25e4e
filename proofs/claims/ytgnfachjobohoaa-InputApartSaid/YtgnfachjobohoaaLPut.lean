/-
label.Put.
label.Write.
-/
import Derived.Test.YtgnfachjobohoaaLab4
namespace Go.Proofs.Ytgnfachjobohoaa
open Go.RowKit

/-- A box that no write touches. -/
def Boxd (W : World) (bx g : Nat) (cs : Array Value) : Prop := Blk W bx 59 cs ∧ bx ≠ g ∧ some bx ≠ rowOf W g
theorem Boxd.wrote {W W' : World} {B bx g : Nat} {cs : Array Value} (h : Boxd W bx g cs) (k : Wrote B g W W') : Boxd W' bx g cs :=
  ⟨(k.2.1 bx h.1.lt h.2.1 h.2.2).trans h.1, h.2.1, fun e => (k.2.2 bx e.symm).elim (fun e' => h.2.2 e'.symm) (fun e' => by have := h.1.lt; omega)⟩
theorem Boxd.drew {W : World} {bx g : Nat} {cs : Array Value} (h : Boxd W bx g cs) : Boxd W.drew bx g cs := h
theorem Wrote.drew {B g : Nat} {W W' : World} (h : Wrote B g W W') : Wrote B g W W'.drew := ⟨h.1.drew, h.2.1, h.2.2⟩
def encL (l : Lab) : List Nat := enc l.t ++ enc l.nd.toNat ++ enc l.n ++ enc l.ca.toNat ++ enc l.se.toNat ++ encV l.f

end Go.Proofs.Ytgnfachjobohoaa
namespace Go.Proofs.Ytgnfachjobohoaa
open Go.RowKit

/-- What a label that may be is. -/
theorem lab_nats {l : Lab} (h : rightL l = true) : ∃ nd ca se : Nat, l = Lab.mk l.t (nd : Nat) l.n (ca : Nat) (se : Nat) l.f ∧ 1 ≤ nd ∧ nd ≤ 12 ∧ 1 ≤ ca ∧ ca ≤ 12 ∧ se ≤ 12 ∧ 1 ≤ l.t ∧ l.t ≤ 1099511627776 ∧ l.n ≤ 1048576 := by
  unfold rightL timeB placeB nextB nodeB at h
  simp only [Bool.and_eq_true, decide_eq_true_eq] at h
  obtain ⟨⟨⟨⟨h1, h2⟩, ⟨⟨h3, h4⟩, h5⟩, h6⟩, ⟨⟨h7, h8⟩, h9⟩, h10⟩, h11⟩ := h
  obtain ⟨t, nd, n, ca, se, f⟩ := l
  obtain ⟨nd, rfl⟩ := Int.eq_ofNat_of_zero_le (show 0 ≤ nd by dsimp only at h7; omega)
  obtain ⟨ca, rfl⟩ := Int.eq_ofNat_of_zero_le (show 0 ≤ ca by dsimp only at h3; omega)
  obtain ⟨se, rfl⟩ := Int.eq_ofNat_of_zero_le (show 0 ≤ se by dsimp only at h5; omega)
  dsimp only at *
  exact ⟨nd, ca, se, rfl, by omega, by omega, by omega, by omega, by omega, h1, h2, by omega⟩
theorem encL_len {l : Lab} (hr : rightL l = true) (hf : ∀ i, l.f i < 4294967296) : (encL l).length ≤ 200 := by
  obtain ⟨nd, ca, se, hl, h1, h2, h3, h4, h5, h6, h7, h8⟩ := lab_nats hr
  have e1 := enc_len l.t (by omega)
  have e2 := enc_len nd (by omega)
  have e3 := enc_len l.n (by omega)
  have e4 := enc_len ca (by omega)
  have e5 := enc_len se (by omega)
  have e6 := encV_len l.f hf
  rw [hl]
  show (enc l.t ++ enc nd ++ enc l.n ++ enc ca ++ enc se ++ encV l.f).length ≤ 200
  simp only [List.length_append]
  omega

section
variable (l : Lab) (W : World)
end
end Go.Proofs.Ytgnfachjobohoaa

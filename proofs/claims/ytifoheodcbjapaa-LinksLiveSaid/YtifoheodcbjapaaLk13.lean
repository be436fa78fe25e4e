/-
link: a link's bytes are read as it, in one way alone.
-/
import Derived.Test.YtifoheodcbjapaaLk12
namespace Go.Proofs.Ytifoheodcbjapaa
open Go.RowKit
set_option linter.unusedSimpArgs false
set_option linter.unusedVariables false
namespace Lk
theorem next_back {n : Nat} (h1 : 1 ≤ n) (h2 : n ≤ 1099511627777) : Back nextP (enc n) n := by
  refine ⟨fun t => ?_, fun k hk => ?_⟩
  · unfold nextP; rw [numP_enc n (by omega) t]; exact if_pos ⟨h1, h2⟩
  · unfold nextP; rw [enc_cut n k (by omega) hk]
theorem text1_back {x : List Nat} (h1 : 1 ≤ x.length) (h2 : x.length ≤ 1800) : Back textP1 (enc x.length ++ x) x := by
  have h := text_back 1800 x (by omega) (by omega)
  refine ⟨fun t => ?_, fun k hk => ?_⟩
  · unfold textP1; rw [h.1 t]; exact if_pos h1
  · unfold textP1; rw [h.2 k hk]
theorem texts_bind (n : Nat) (acc : List (List Nat)) : textsP (n + 1) acc = bindP textP1 (fun x => textsP n (acc ++ [x])) := by
  funext bs
  rw [textsP_succ]
  unfold bindP
  cases textP1 bs with
  | error e => rfl
  | ok z => rfl
theorem texts_back : ∀ (ts acc : List (List Nat)), (∀ b ∈ ts, 1 ≤ b.length ∧ b.length ≤ 1800) → Back (textsP ts.length acc) (encTs ts) (acc ++ ts)
  | [], acc, _ => by
    have : textsP ([] : List (List Nat)).length acc = fun bs => .ok (acc, bs) := by funext bs; rfl
    rw [this, List.append_nil]
    exact back_pure acc
  | b :: ts, acc, h => by
    have hb := h b (by simp)
    have ih := texts_back ts (acc ++ [b]) (fun x hx => h x (by simp [hx]))
    rw [List.length_cons, texts_bind]
    have := (text1_back hb.1 hb.2).bind (Q := fun x => textsP ts.length (acc ++ [x])) ih
    rw [show encTs (b :: ts) = (enc b.length ++ b) ++ encTs ts by simp [encTs], show acc ++ b :: ts = acc ++ [b] ++ ts by simp]
    exact this
theorem rest_bind (nx n : Nat) : restP nx n [] = bindP (textsP n []) (fun ts => bindP nextP (fun ex bs => .ok (⟨nx, ex, ts⟩, bs))) := by
  funext bs
  unfold restP bindP
  cases textsP n [] bs with
  | error e => rfl
  | ok z => obtain ⟨ts, t⟩ := z; dsimp only; cases nextP t with
    | error e => rfl
    | ok z => rfl
theorem link_bind : linkP = bindP nextP (fun nx => bindP (smallP 250) (fun n q => if n < nx then restP nx n [] q else .error 3)) := by
  funext bs
  unfold linkP bindP
  cases nextP bs with
  | error e => rfl
  | ok z => obtain ⟨nx, t⟩ := z; dsimp only; cases smallP 250 t with
    | error e => rfl
    | ok z => rfl
theorem link_back {s : LS} (h : s.Ok) : Back linkP (encL s) s := by
  have h0 := h.lt
  have h1 := next_back (n := s.nx) (by omega) h.big
  have h2 := small_back 250 s.ts.length (by have := h.len; omega) (by have := h.len; omega)
  have h3 := texts_back s.ts [] (fun b hb => (h.ts b hb).2)
  rw [List.nil_append] at h3
  have h4 := next_back h.e1 h.e2
  have h5 : Back (fun q => if s.ts.length < s.nx then restP s.nx s.ts.length [] q else .error 3) (encTs s.ts ++ enc s.ex) s := by
    have he : (fun q => if s.ts.length < s.nx then restP s.nx s.ts.length [] q else .error 3) = bindP (textsP s.ts.length []) (fun ts => bindP nextP (fun ex bs => .ok (⟨s.nx, ex, ts⟩, bs))) := by
      rw [← rest_bind]
      funext q
      exact if_pos h0
    rw [he]
    refine h3.bind (Q := fun ts => bindP nextP (fun ex bs => .ok ((⟨s.nx, ex, ts⟩ : LS), bs))) ?_
    have := h4.bind (Q := fun ex bs => .ok ((⟨s.nx, ex, s.ts⟩ : LS), bs)) (back_pure _)
    rw [List.append_nil] at this
    exact this
  rw [link_bind]
  have := h1.bind (Q := fun nx => bindP (smallP 250) (fun n q => if n < nx then restP nx n [] q else .error 3)) (h2.bind (Q := fun n q => if n < s.nx then restP s.nx n [] q else .error 3) h5)
  unfold encL
  rw [List.append_assoc, List.append_assoc]
  exact this
theorem link_yes {s : LS} (h : s.Ok) : linkP (encL s) = .ok (s, []) := by
  have := (link_back h).1 []
  rwa [List.append_nil] at this
theorem link_more {s : LS} (h : s.Ok) (t : List Nat) (ht : t ≠ []) (S : LS) : linkP (encL s ++ t) ≠ .ok (S, []) := by
  rw [(link_back h).1 t]
  intro e
  simp only [Except.ok.injEq, Prod.mk.injEq] at e
  exact ht e.2
theorem link_less {s : LS} (h : s.Ok) (k : Nat) (hk : k < (encL s).length) (S : LS) : linkP ((encL s).take k) ≠ .ok (S, []) := by
  rw [(link_back h).2 k hk]
  intro e; cases e
theorem link_nil (S : LS) : linkP [] ≠ .ok (S, []) := by
  intro e
  have : linkP [] = .error 8 := by rfl
  rw [this] at e; cases e
end Lk
end Go.Proofs.Ytifoheodcbjapaa

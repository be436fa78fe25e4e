/-
link: a link's bytes as a string; the link of bytes (save, load of the statements).
-/
import Derived.Test.YtifoheodcbjapaaLk10
import Derived.Test.YtifoheodcbjapaaStrS
namespace Go.Proofs.Ytifoheodcbjapaa
open Go.RowKit
set_option linter.unusedSimpArgs false
set_option linter.unusedVariables false
namespace Lk
theorem enc_256 (n : Nat) : ∀ x ∈ enc n, x < 256 := by
  have h : ∀ m, ∀ x ∈ encHi m, x < 256 := by
    intro m
    induction m using Nat.strongRecOn with
    | _ m ih =>
      intro x hx
      by_cases h0 : m = 0
      · subst h0; rw [encHi_zero] at hx; cases hx
      · rw [encHi_step (by omega)] at hx
        rcases List.mem_append.1 hx with h1 | h1
        · exact ih (m / 128) (by omega) x h1
        · rw [List.mem_singleton.1 h1]; omega
  intro x hx
  unfold enc at hx
  rcases List.mem_append.1 hx with h1 | h1
  · exact h _ x h1
  · rw [List.mem_singleton.1 h1]; omega
/-- Texts that may be, so many numbers. -/
structure LS.Ok (s : LS) : Prop where
  len : s.ts.length ≤ 250
  lt : s.ts.length < s.nx
  big : s.nx ≤ 1099511627777
  e1 : 1 ≤ s.ex
  e2 : s.ex ≤ 1099511627777
  ts : ∀ b ∈ s.ts, (∀ y ∈ b, y < 256) ∧ 1 ≤ b.length ∧ b.length ≤ 1800
theorem LK.ok {W : World} {B d : Nat} {F : Nat → Prop} {s : LS} (h : LK W B d F s) : s.Ok := by
  obtain ⟨A, c, l, D⟩ := h
  have htl := D.tl
  refine ⟨by rw [htl]; exact D.len, by rw [htl]; exact D.lt, D.big, D.e1, D.e2, fun b hb => ?_⟩
  rw [← D.ts] at hb
  obtain ⟨x, hx, rfl⟩ := List.mem_map.1 hb
  have := D.at_ x hx
  exact ⟨this.1, this.2.1, this.2.2.1⟩
theorem encTs_256 {ts : List (List Nat)} (h : ∀ b ∈ ts, ∀ y ∈ b, y < 256) : ∀ y ∈ encTs ts, y < 256 := by
  intro y hy
  unfold encTs at hy
  obtain ⟨b, hb, hy⟩ := List.mem_flatMap.1 hy
  rcases List.mem_append.1 hy with hy | hy
  · exact enc_256 _ y hy
  · exact h b hb y hy
theorem LS.Ok.h256 {s : LS} (h : s.Ok) : ∀ y ∈ encL s, y < 256 := by
  intro y hy
  unfold encL at hy
  simp only [List.mem_append] at hy
  rcases hy with ((hy | hy) | hy) | hy
  · exact enc_256 _ y hy
  · exact enc_256 _ y hy
  · exact encTs_256 (fun b hb => (h.ts b hb).1) y hy
  · exact enc_256 _ y hy
theorem LS.Ok.elen {s : LS} (h : s.Ok) : (encL s).length ≤ 500000 := by
  have h1 := enc_len s.nx (by have := h.big; omega)
  have h2 := enc_len s.ts.length (by have := h.len; omega)
  have h3 := enc_len s.ex (by have := h.e2; omega)
  have h4 := encTs_len (ts := s.ts) (fun b hb => (h.ts b hb).2.2)
  have h5 := h.len
  unfold encL
  simp only [List.length_append]
  omega
theorem row_ge {W : World} {B g : Nat} {bs : List Nat} (h : Wtr W B g bs) {k : Nat} (hk : rowOf W g = some k) : B ≤ k := by
  obtain ⟨hB, v, hv, hown⟩ := h
  rw [rowOf_of hv] at hk
  obtain ⟨hl, ⟨rfl, _⟩ | ⟨q, cap, cur, rfl, hq, _⟩⟩ := hown
  · simp [Value.ownBlock] at hk
  · simp [Value.ownBlock] at hk
    omega
section
variable (W : World) {B d : Nat} {F : Nat → Prop} {s : LS}
end
end Lk
end Go.Proofs.Ytifoheodcbjapaa

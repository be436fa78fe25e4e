/-
A writer beside objects of other types; bytes of numbers; a reader that stays.
-/
import Derived.Test.YtohnhokddbeheaaWrite
import Derived.Test.YtohnhokddbeheaaRead6
import Derived.Test.YtohnhokddbeheaaVec
import Derived.Test.YtohnhokddbeheaaNds
namespace Go.Proofs.Ytohnhokddbeheaa
open Go.RowKit
set_option linter.unusedSimpArgs false
set_option linter.unusedVariables false
namespace Nd
/-- A block of another type stays. -/
theorem wrote_obj {w w' : World} {B g ge : Nat} {bs : List Nat} {t : TypeId} {cs : Array Value} {z : Nat × Nat} (h : Wtr w B g bs) (hr : Wrote B g w w') (hx : w.heap[ge]? = some (.cells cs t z)) (h1 : t ≠ 5) (h2 : t ≠ 115) : w'.heap[ge]? = some (.cells cs t z) := by
  obtain ⟨_, v, hv, hown⟩ := h
  refine (hr.2.1 ge (Array.getElem?_eq_some_iff.1 hx).1 (fun e => ?_) (fun e => ?_)).trans hx
  · subst e
    rw [hx] at hv
    simp only [Option.some.injEq, Obj.cells.injEq] at hv
    exact h2 hv.2.1
  · rw [rowOf_of hv] at e
    rcases hown.2 with ⟨rfl, _⟩ | ⟨k, cap, cur, rfl, _, hh, _⟩
    · cases e
    · simp only [Value.ownBlock, Option.some.injEq] at e
      subst e
      rw [hx] at hh
      simp only [Option.some.injEq, Obj.cells.injEq] at hh
      exact h1 hh.2.1
theorem wrote_blk {w w' : World} {B g ge : Nat} {bs : List Nat} {t : TypeId} {cs : Array Value} (h : Wtr w B g bs) (hr : Wrote B g w w') (hx : Blk w ge t cs) (h1 : t ≠ 5) (h2 : t ≠ 115) : Blk w' ge t cs := wrote_obj h hr hx h1 h2
theorem nds_wrote {w w' : World} {B g base : Nat} {bs : List Nat} {v : Value} {l : List Nat} (h : Wtr w B g bs) (hr : Wrote B g w w') (hN : Nds w base v l) : Nds w' base v l := by
  refine ⟨hN.1, hN.2.imp id ?_⟩
  rintro ⟨q, o, cap, cur, e1, hb, hg, r⟩
  exact ⟨q, o, cap, cur, e1, hb, wrote_obj h hr hg (by decide) (by decide), r⟩
/-- A writer that writes, from a world on. -/
structure PM (w2 w : World) (B g : Nat) (bs : List Nat) : Prop where
  wt : Wtr w B g bs
  wr : Wrote B g w2 w
section
variable {w2 w w' : World} {B g gx : Nat} {bs bs' : List Nat} {t : TypeId} {cs : Array Value}
theorem PM.next (h : PM w2 w B g bs) (hb : Below w.heap.size w w') : PM w2 w' B g bs :=
  ⟨h.wt.next hb, h.wr.trans (Wrote.ofBelow hb (Nat.le_of_lt (Nat.lt_of_le_of_lt h.wt.1 h.wt.lt)) h.wt.lt)⟩
theorem PM.put (h : PM w2 w B g bs) (hw : Wtr w' B g bs') (hr : Wrote B g w w') : PM w2 w' B g bs' := ⟨hw, h.wr.trans hr⟩
end
theorem enc_256 (n : Nat) : ∀ x ∈ enc n, x < 256 := by
  have h : ∀ m, ∀ x ∈ encHi m, x < 256 := by
    intro m
    induction m using Nat.strongRecOn with
    | _ m ih =>
      intro x hx
      by_cases h0 : m = 0
      · subst h0; rw [encHi_zero] at hx; cases hx
      · rw [encHi_step (by omega)] at hx
        rcases List.mem_append.1 hx with h1 | h1
        · exact ih (m / 128) (by omega) x h1
        · rw [List.mem_singleton.1 h1]; omega
  intro x hx
  unfold enc at hx
  rcases List.mem_append.1 hx with h1 | h1
  · exact h _ x h1
  · rw [List.mem_singleton.1 h1]; omega
theorem encHi_small {n : Nat} (h : n < 128) : enc n = [n] := by
  unfold enc
  rw [show n / 128 = 0 by omega, encHi_zero, show n % 128 = n by omega]
  rfl
theorem numP_ne0 : ∀ (bs : List Nat) (b : Bool) (n : Nat) (x : Int), numP b n bs = .error x → x ≠ 0
  | [], b, n, x, h => by
    simp only [numP, Except.error.injEq] at h
    omega
  | y :: l, b, n, x, h => by
    rw [numP] at h
    split at h
    · simp only [Except.error.injEq] at h; omega
    · split at h
      · simp only [Except.error.injEq] at h; omega
      · split at h
        · cases h
        · exact numP_ne0 _ _ _ _ h
theorem smallP_ne0 {m : Int} {bs : List Nat} {x : Int} (h : smallP m bs = .error x) : x ≠ 0 := by
  unfold smallP at h
  split at h
  · split at h
    · cases h
    · cases h; decide
  · rename_i y hy
    cases h
    exact numP_ne0 _ _ _ _ hy
theorem small_le {most : Int} {bs t : List Nat} {v : Nat} (h : smallP most bs = .ok (v, t)) : (v : Int) ≤ most := by
  unfold smallP at h
  split at h
  · split at h
    · rename_i h2
      simp only [Except.ok.injEq, Prod.mk.injEq] at h
      rw [← h.1]; exact h2.2
    · cases h
  · cases h
theorem rdb_keep {L s : Nat} {W W' : World} {bs : List Nat} (h : RdB L W s bs) (hs : W'.heap[s]? = W.heap[s]?) (hL : ∀ k, k < L → k ≠ s → k < W.heap.size → W'.heap[k]? = W.heap[k]?) (hz : W.heap.size ≤ W'.heap.size) : RdB L W' s bs := by
  obtain ⟨A, c, hR, hc, h⟩ := h
  have cs : ∀ i, W'.cell? ⟨s, i, none⟩ = W.cell? ⟨s, i, none⟩ := fun i => World.cell?_of_block hs
  refine ⟨A, c, ⟨(cs 0).trans hR.1, (cs 1).trans hR.2.1, (cs 2).trans hR.2.2.1, fun i => ?_⟩, hc, h.imp id ?_⟩
  · have := hR.2.2.2 i
    simp only [World.frozen?] at this ⊢
    rw [hs]; exact this
  rintro ⟨b, p, e, h1, ⟨h0, h2⟩, h3⟩
  exact ⟨b, p, e, h1, ⟨h0, Nat.lt_of_lt_of_le h2 hz⟩, fun i x hi => (World.cell?_of_block (hL b h0 h1 h2)).trans (h3 i x hi)⟩
end Nd
end Go.Proofs.Ytohnhokddbeheaa

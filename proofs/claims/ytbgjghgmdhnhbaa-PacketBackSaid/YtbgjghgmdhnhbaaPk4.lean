/-
packet: get.
-/
import Derived.Test.YtbgjghgmdhnhbaaPk3
namespace Go.Proofs.Ytbgjghgmdhnhbaa
open Go.RowKit
set_option linter.unusedSimpArgs false
set_option linter.unusedVariables false
namespace Pk
def finP (p : Pt) (t : List Nat) : Except Int (Pt × List Nat) := if rightB p then .ok (p, t) else .error 3
def getP4 (a f t q : Nat) (bs : List Nat) : Except Int (Pt × List Nat) :=
  if a = 1 then finP ⟨true, f, t, q, []⟩ bs else match textP 1800 bs with
    | .ok (x, t5) => finP ⟨false, f, t, q, x⟩ t5
    | .error e => .error e
def getP3 (a f t : Nat) (bs : List Nat) : Except Int (Pt × List Nat) := match numP true 0 bs with
    | .ok (q, t4) => getP4 a f t q t4
    | .error e => .error e
def getP2 (a f : Nat) (bs : List Nat) : Except Int (Pt × List Nat) := match smallP 12 bs with
    | .ok (t, t3) => getP3 a f t t3
    | .error e => .error e
def getP1 (a : Nat) (bs : List Nat) : Except Int (Pt × List Nat) := match smallP 12 bs with
    | .ok (f, t2) => getP2 a f t2
    | .error e => .error e
def getP (bs : List Nat) : Except Int (Pt × List Nat) := match smallP 1 bs with
    | .ok (a, t1) => getP1 a t1
    | .error e => .error e
theorem off_below {s : Nat} {w w' : World} (hb : Below w.heap.size w w') : Off s w w' := ⟨hb.os, hb.tape, hb.output, hb.size, fun b h _ => hb.block b h⟩
theorem rdb_keep {L s : Nat} {W W' : World} {bs : List Nat} (h : RdB L W s bs) (hs : W'.heap[s]? = W.heap[s]?) (hL : ∀ k, k < L → k ≠ s → k < W.heap.size → W'.heap[k]? = W.heap[k]?) (hz : W.heap.size ≤ W'.heap.size) : RdB L W' s bs := by
  obtain ⟨A, c, hR, hc, h⟩ := h
  have cs : ∀ i, W'.cell? ⟨s, i, none⟩ = W.cell? ⟨s, i, none⟩ := fun i => World.cell?_of_block hs
  refine ⟨A, c, ⟨(cs 0).trans hR.1, (cs 1).trans hR.2.1, (cs 2).trans hR.2.2.1, fun i => ?_⟩, hc, h.imp id ?_⟩
  · have := hR.2.2.2 i
    simp only [World.frozen?] at this ⊢
    rw [hs]; exact this
  rintro ⟨b, p, e, h1, ⟨h0, h2⟩, h3⟩
  exact ⟨b, p, e, h1, ⟨h0, Nat.lt_of_lt_of_le h2 hz⟩, fun i x hi => (World.cell?_of_block (hL b h0 h1 h2)).trans (h3 i x hi)⟩
/-- A packet that is being read, in block d; its place for the answer is block r. -/
structure Gt (L : Nat) (W wr : World) (k s r d : Nat) (t : List Nat) (cs : List Value) : Prop where
  off : Off s W wr
  rdr : Rdr wr k s
  rdb : RdB L wr s t
  rl : W.heap.size ≤ r ∧ r < d ∧ d < wr.heap.size
  res : Blk wr r 25 #[.bool false, .int .i64 0, .int .i64 0, .int .u64 0, .slice none 0 0]
  blk : Blk wr d 25 cs.toArray
  tl : t.length ≤ 140737488355328
section
variable {L : Nat} {W wr w' : World} {k s r d : Nat} {t : List Nat} {cs : List Value}
theorem Gt.step (h : Gt L W wr k s r d t cs) {t' : List Nat} (hs : s < W.heap.size) (hO : Off s wr w') (hB : RdB L w' s t') (hl : t'.length ≤ t.length) : Gt L W w' k s r d t' cs := by
  have hz := h.off.size
  have h1 := h.rl
  exact ⟨h.off.trans hO, h.rdr.off hO, hB, ⟨h1.1, h1.2.1, Nat.lt_of_lt_of_le h1.2.2 hO.size⟩, (hO.block r (by omega) (by omega)).trans h.res, (hO.block d h1.2.2 (by omega)).trans h.blk, Nat.le_trans hl h.tl⟩
theorem Gt.below (h : Gt L W wr k s r d t cs) (hs : s < W.heap.size) (hb : Below wr.heap.size wr w') : Gt L W w' k s r d t cs :=
  h.step hs (off_below hb) (rdb_keep h.rdb (hb.block s (Nat.lt_of_lt_of_le hs h.off.size)) (fun b _ _ h2 => hb.block b h2) hb.size) (Nat.le_refl _)
theorem Gt.set (h : Gt L W wr k s r d t cs) (hk : k < W.heap.size) (hs : s < W.heap.size) (hL : L ≤ W.heap.size) (i : Nat) (v : Value) : Gt L W (wr.setCell ⟨d, i, none⟩ v) k s r d t (cs.set i v) := by
  have hz := h.off.size
  have h1 := h.rl
  have far : ∀ b, b ≠ d → (wr.setCell ⟨d, i, none⟩ v).heap[b]? = wr.heap[b]? := fun b hb => Below.heap_setCell wr ⟨d, i, none⟩ _ b hb
  have hsz : (wr.setCell ⟨d, i, none⟩ v).heap.size = wr.heap.size := by simp [World.setCell]
  have hb := h.blk.setCell i v
  refine ⟨⟨h.off.os, h.off.tape, h.off.output, by rw [hsz]; exact hz, fun b hb hbs => (far b (by omega)).trans (h.off.block b hb hbs)⟩, ⟨h.rdr.1, (World.cell?_of_block (far k (by omega))).trans h.rdr.2⟩, rdb_keep h.rdb (far s (by omega)) (fun b hb _ _ => far b (by omega)) (by omega), ⟨h1.1, h1.2.1, by omega⟩, (far r (by omega)).trans h.res, ?_, h.tl⟩
  have e : (cs.set i v).toArray = cs.toArray.setIfInBounds i v := by simp
  rw [e]; exact hb
end
/-- What get gives. -/
def EndP (L s : Nat) (W : World) (P : Except Int (Pt × List Nat)) (e : Ending) (W' : World) : Prop :=
  match P with
  | .ok (p, q) => ∃ A c, e = .returned (.agg (Pc.mk p A c).cells.toArray) ∧ Off s W W' ∧ (Pc.mk p A c).Ok W' ∧ (∀ b o, A = some ⟨b, o, none⟩ → W.heap.size ≤ b) ∧ RdB L W' s q
  | .error x => e = .panicked [{ v := flt s, recovered := false }] ∧ Met' W' s x ∧ Off s W W'
end Pk
end Go.Proofs.Ytbgjghgmdhnhbaa

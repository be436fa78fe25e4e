/-
link: Get.
-/
import Derived.Test.YtifoheodcbjapaaLk8
import Derived.Test.YtifoheodcbjapaaAppendStep
import Derived.Test.YtifoheodcbjapaaBack
namespace Go.Proofs.Ytifoheodcbjapaa
open Go.RowKit
set_option linter.unusedSimpArgs false
set_option linter.unusedVariables false
namespace Lk
/-- So many texts. -/
def textsP : Nat → List (List Nat) → List Nat → Except Int (List (List Nat) × List Nat)
  | 0, acc, bs => .ok (acc, bs)
  | n + 1, acc, bs => match textP1 bs with
    | .ok (x, t) => textsP n (acc ++ [x]) t
    | .error e => .error e
def restP (nx n : Nat) (acc : List (List Nat)) (bs : List Nat) : Except Int (LS × List Nat) :=
  match textsP n acc bs with
  | .ok (ts, t) => match nextP t with
    | .ok (ex, q) => .ok (⟨nx, ex, ts⟩, q)
    | .error e => .error e
  | .error e => .error e
/-- A link that is read. -/
def linkP (bs : List Nat) : Except Int (LS × List Nat) :=
  match nextP bs with
  | .ok (nx, t) => match smallP 250 t with
    | .ok (n, q) => if n < nx then restP nx n [] q else .error 3
    | .error e => .error e
  | .error e => .error e
theorem nextP_ok {bs t : List Nat} {n : Nat} (h : nextP bs = .ok (n, t)) : numP true 0 bs = .ok (n, t) ∧ 1 ≤ n ∧ n ≤ 1099511627777 := by
  unfold nextP at h
  split at h
  · split at h
    · rename_i h1 h2; simp only [Except.ok.injEq, Prod.mk.injEq] at h; obtain ⟨rfl, rfl⟩ := h; exact ⟨h1, h2.1, h2.2⟩
    · cases h
  · cases h
theorem textP1_ok {bs t x : List Nat} (h : textP1 bs = .ok (x, t)) : textP 1800 bs = .ok (x, t) ∧ 1 ≤ x.length ∧ x.length ≤ 1800 ∧ t.length ≤ bs.length := by
  unfold textP1 at h
  split at h
  · split at h
    · rename_i h1 h2
      simp only [Except.ok.injEq, Prod.mk.injEq] at h
      obtain ⟨rfl, rfl⟩ := h
      have h3 := textP_len h1
      exact ⟨h1, h2, by omega, h3.2⟩
    · cases h
  · cases h
theorem textP_in {most : Int} {bs x t : List Nat} (hb : ∀ y ∈ bs, y < 256) (h : textP most bs = .ok (x, t)) : (∀ y ∈ x, y < 256) ∧ ∀ y ∈ t, y < 256 := by
  have h1 := text_one hb h
  rw [h1] at hb
  exact ⟨fun y hy => hb y (by simp [hy]), fun y hy => hb y (by simp [hy])⟩
theorem numP_in {bs t : List Nat} {v : Nat} (hb : ∀ y ∈ bs, y < 256) (h : numP true 0 bs = .ok (v, t)) : ∀ y ∈ t, y < 256 := by
  have h1 := num_one hb h
  rw [h1] at hb
  exact fun y hy => hb y (by simp [hy])
/-- What a reader reads stays, if its block and the bytes do. -/
theorem rdb_keep {L s : Nat} {W W' : World} {bs : List Nat} (h : RdB L W s bs) (hs : W'.heap[s]? = W.heap[s]?) (hL : ∀ k, k < L → k ≠ s → k < W.heap.size → W'.heap[k]? = W.heap[k]?) (hz : W.heap.size ≤ W'.heap.size) : RdB L W' s bs := by
  obtain ⟨A, c, hR, hc, h⟩ := h
  have cs : ∀ i, W'.cell? ⟨s, i, none⟩ = W.cell? ⟨s, i, none⟩ := fun i => World.cell?_of_block hs
  refine ⟨A, c, ⟨(cs 0).trans hR.1, (cs 1).trans hR.2.1, (cs 2).trans hR.2.2.1, fun i => ?_⟩, hc, h.imp id ?_⟩
  · have := hR.2.2.2 i
    simp only [World.frozen?] at this ⊢
    rw [hs]; exact this
  rintro ⟨b, p, e, h1, ⟨h0, h2⟩, h3⟩
  exact ⟨b, p, e, h1, ⟨h0, Nat.lt_of_lt_of_le h2 hz⟩, fun i x hi => (World.cell?_of_block (hL b h0 h1 h2)).trans (h3 i x hi)⟩
/-- A link that is being read. -/
structure GA (L : Nat) (W wr : World) (k s d nx n : Nat) (t : List Nat) (A : Option Addr) (c : Nat) (l : List It) : Prop where
  off : Off s W wr
  rdr : Rdr wr k s
  rdb : RdB L wr s t
  dl : W.heap.size ≤ d ∧ d < wr.heap.size
  blk : Blk wr d 47 #[.int .u64 (nx : Nat), .slice A l.length c, .int .u64 0]
  row : wr.ownsRow W.heap.size 70 2 (.slice A l.length c) l.length (its l)
  at_ : ∀ x ∈ l, x.At wr (fun k => W.heap.size ≤ k ∧ k < wr.heap.size)
  seq : ∀ (i : Nat) (x : It), l[i]? = some x → x.q + n = nx + i
  tl : t.length ≤ 140737488355328
  tb : ∀ y ∈ t, y < 256
section
variable {L : Nat} {W wr w' : World} {k s d nx n c : Nat} {t : List Nat} {A : Option Addr} {l : List It}
theorem own_keep {w w' : World} {B size n' : Nat} {e : TypeId} {v : Value} {xs : List Value} (h : w.ownsRow B e size v n' xs) (hk : ∀ b, B ≤ b → b < w.heap.size → (∃ cs z, w.heap[b]? = some (.cells cs e z)) → w'.heap[b]? = w.heap[b]?) : w'.ownsRow B e size v n' xs := by
  refine ⟨h.1, ?_⟩
  rcases h.2 with hn | ⟨g, cap, cur, rfl, hb, hgg, rest⟩
  · exact .inl hn
  · exact .inr ⟨g, cap, cur, rfl, hb, (hk g hb (Array.getElem?_eq_some_iff.1 hgg).1 ⟨_, _, hgg⟩).trans hgg, rest⟩
theorem GA.off' (h : GA L W wr k s d nx n t A c l) {t' : List Nat} (hsW : s < W.heap.size) (hO : Off s wr w') (hB : RdB L w' s t') (htl : t'.length ≤ t.length) (htb : ∀ y ∈ t', y < 256) : GA L W w' k s d nx n t' A c l := by
  have hz := h.off.size
  have hds : d ≠ s := by have := h.dl.1; omega
  refine ⟨h.off.trans hO, h.rdr.off hO, hB, ⟨h.dl.1, Nat.lt_of_lt_of_le h.dl.2 hO.size⟩, (hO.block d h.dl.2 hds).trans h.blk, own_keep h.row (fun b hb hb2 _ => hO.block b hb2 (by omega)), fun x hx => (h.at_ x hx).keep fun b hb => ⟨⟨hb.1, Nat.lt_of_lt_of_le hb.2 hO.size⟩, hO.block b hb.2 (by omega)⟩, h.seq, Nat.le_trans htl h.tl, htb⟩
theorem off_below (hb : Below wr.heap.size wr w') : Off s wr w' := ⟨hb.os, hb.tape, hb.output, hb.size, fun b h _ => hb.block b h⟩
theorem GA.below (h : GA L W wr k s d nx n t A c l) (hsW : s < W.heap.size) (hb : Below wr.heap.size wr w') : GA L W w' k s d nx n t A c l :=
  h.off' hsW (off_below hb) (rdb_keep h.rdb (hb.block s (Nat.lt_of_lt_of_le hsW h.off.size)) (fun b _ _ h2 => hb.block b h2) hb.size) (Nat.le_refl _) h.tb
theorem GA.put (h : GA L W wr k s d nx n t A c l) (hkW : k < W.heap.size) (hsW : s < W.heap.size) (hLW : L ≤ W.heap.size) {x : It} {w2 : World} {A2 : Option Addr} {c2 : Nat} (hx : x.At wr (fun b => W.heap.size ≤ b ∧ b < wr.heap.size)) (hq : x.q + n = nx + l.length)
    (hg : wr.grownBy w2 (Value.ownBlock (.slice A l.length c))) (ho : w2.ownsRow W.heap.size 70 2 (.slice A2 (l.length + 1) c2) (l.length + 1) (its l ++ x.cells)) :
    GA L W (w2.setCell ⟨d, 1, none⟩ (.slice A2 (l.length + 1) c2)) k s d nx n t A2 c2 (l ++ [x]) := by
  have hz := h.off.size
  have hgz := hg.size
  obtain ⟨d1, d2⟩ := h.dl
  have far : ∀ b, b ≠ d → (w2.setCell ⟨d, 1, none⟩ (.slice A2 (l.length + 1) c2)).heap[b]? = w2.heap[b]? := fun b hb => Below.heap_setCell w2 ⟨d, 1, none⟩ _ b hb
  have hsz : (w2.setCell ⟨d, 1, none⟩ (.slice A2 (l.length + 1) c2)).heap.size = w2.heap.size := by simp [World.setCell]
  obtain ⟨w3, hw3⟩ : ∃ w3, w3 = w2.setCell ⟨d, 1, none⟩ (.slice A2 (l.length + 1) c2) := ⟨_, rfl⟩
  have own : ∀ b cs t' z, t' ≠ 70 → b < wr.heap.size → wr.heap[b]? = some (.cells cs t' z) → w2.heap[b]? = wr.heap[b]? := by
    intro b cs t' z ht hb hh
    refine hg.block b hb ?_
    rintro e
    rcases h.row.2 with ⟨e1, _⟩ | ⟨g, cap, cur, e1, _, hgg, _⟩
    · simp only [Value.slice.injEq] at e1
      obtain ⟨rfl, _⟩ := e1
      simp [Value.ownBlock] at e
    · simp only [Value.slice.injEq] at e1
      obtain ⟨rfl, _⟩ := e1
      simp [Value.ownBlock] at e
      subst e
      rw [hgg] at hh
      simp only [Option.some.injEq, Obj.cells.injEq] at hh
      exact ht hh.2.1.symm
  have low : ∀ b, b < W.heap.size → w2.heap[b]? = wr.heap[b]? := by
    intro b hb
    refine hg.block b (by omega) ?_
    rintro e
    rcases h.row.2 with ⟨e1, _⟩ | ⟨g, cap, cur, e1, hB, hgg, _⟩
    · simp only [Value.slice.injEq] at e1
      obtain ⟨rfl, _⟩ := e1
      simp [Value.ownBlock] at e
    · simp only [Value.slice.injEq] at e1
      obtain ⟨rfl, _⟩ := e1
      simp [Value.ownBlock] at e
      omega
  have hblk : Blk w2 d 47 #[.int .u64 (nx : Nat), .slice A l.length c, .int .u64 0] := (own d _ _ _ (by decide) d2 h.blk).trans h.blk
  have hblk3 := hblk.setCell 1 (.slice A2 (l.length + 1) c2)
  have hos := hg.os
  have htape := hg.tape
  have hout := hg.output
  rw [← hw3] at far hsz hblk3 ⊢
  have e3 : w3.os = w2.os ∧ w3.tape = w2.tape ∧ w3.output = w2.output := by rw [hw3]; exact ⟨rfl, rfl, rfl⟩
  clear hw3
  have all : ∀ b, b < W.heap.size → w3.heap[b]? = wr.heap[b]? := fun b hb => (far b (by omega)).trans (low b hb)
  have ndd : ∀ {b : Nat} {cs : Array Value} {t' : TypeId} {z : Nat × Nat}, t' ≠ 47 → w2.heap[b]? = some (.cells cs t' z) → b ≠ d := by
    rintro b cs t' z ht hh rfl
    unfold Blk at hblk
    rw [hblk] at hh
    simp only [Option.some.injEq, Obj.cells.injEq] at hh
    exact ht hh.2.1.symm
  have txt : ∀ y : It, y.At wr (fun b => W.heap.size ≤ b ∧ b < wr.heap.size) → y.At w3 (fun b => W.heap.size ≤ b ∧ b < w3.heap.size) := by
    rintro y ⟨h1, h2, h3, h4, b, p, cs, z, e, hF, hh, hc⟩
    have k1 := own b cs _ z (by decide) hF.2 hh
    have k2 := (far b (ndd (by decide) (k1.trans hh))).trans k1
    exact ⟨h1, h2, h3, h4, b, p, cs, z, e, ⟨hF.1, by omega⟩, k2.trans hh, fun i y hy => (World.cell?_of_block k2).trans (hc i y hy)⟩
  refine ⟨⟨(e3.1.trans hos).trans h.off.os, (e3.2.1.trans htape).trans h.off.tape, (e3.2.2.trans hout).trans h.off.output, by omega, fun b hb hbs => (all b hb).trans (h.off.block b hb hbs)⟩, ⟨h.rdr.1, (World.cell?_of_block (all k hkW)).trans h.rdr.2⟩, rdb_keep h.rdb (all s hsW) (fun b hb _ _ => all b (by omega)) (by omega), ⟨d1, by omega⟩, by rw [List.length_append]; exact hblk3, ?_, ?_, ?_, h.tl, h.tb⟩
  · rw [List.length_append, its_app]
    have e1 : its [x] = x.cells := by simp [its]
    rw [e1]
    exact own_keep ho (fun b hb hb2 hh => by
      obtain ⟨cs, z, hh⟩ := hh
      exact far b (ndd (by decide) hh))
  · intro y hy
    rcases List.mem_append.1 hy with hy | hy
    · exact txt y (h.at_ y hy)
    · simp only [List.mem_singleton] at hy
      subst hy
      exact txt y hx
  · intro i y hy
    by_cases hi : i < l.length
    · rw [List.getElem?_append_left hi] at hy
      exact h.seq i y hy
    · rw [List.getElem?_append_right (by omega)] at hy
      have hi2 : i - l.length = 0 := by
        have := (List.getElem?_eq_some_iff.1 hy).1
        simp at this; omega
      rw [hi2] at hy
      simp only [List.getElem?_cons_zero, Option.some.injEq] at hy
      subst hy
      omega
theorem GA.cap (h : GA L W wr k s d nx n t A c l) : l.length ≤ c := by
  rcases h.row.2 with ⟨e, h0⟩ | ⟨g, cap, cur, e, _, _, hnc, _⟩
  · omega
  · simp only [Value.slice.injEq] at e
    rw [e.2.2]; exact hnc
/-- The end of a link that is read. -/
theorem GA.done (h : GA L W wr k s d nx n t A c l) (hkW : k < W.heap.size) (hsW : s < W.heap.size) (hLW : L ≤ W.heap.size) {ex : Nat} (hn : n = l.length) (hn1 : n ≤ 250) (hn2 : n < nx) (hnx : nx ≤ 1099511627777) (he1 : 1 ≤ ex) (he2 : ex ≤ 1099511627777) :
    LK (wr.setCell ⟨d, 2, none⟩ (.int .u64 (ex : Nat))) W.heap.size d (fun b => W.heap.size ≤ b ∧ b < (wr.setCell ⟨d, 2, none⟩ (.int .u64 (ex : Nat))).heap.size) ⟨nx, ex, l.map It.bs⟩ ∧ RdB L (wr.setCell ⟨d, 2, none⟩ (.int .u64 (ex : Nat))) s t ∧ Off s W (wr.setCell ⟨d, 2, none⟩ (.int .u64 (ex : Nat))) := by
  have far : ∀ b, b ≠ d → (wr.setCell ⟨d, 2, none⟩ (.int .u64 (ex : Nat))).heap[b]? = wr.heap[b]? := fun b hb => Below.heap_setCell wr ⟨d, 2, none⟩ _ b hb
  have hsz : (wr.setCell ⟨d, 2, none⟩ (.int .u64 (ex : Nat))).heap.size = wr.heap.size := by simp [World.setCell]
  have hb := h.blk.setCell 2 (.int .u64 (ex : Nat))
  have e3 : (wr.setCell ⟨d, 2, none⟩ (.int .u64 (ex : Nat))).os = wr.os ∧ (wr.setCell ⟨d, 2, none⟩ (.int .u64 (ex : Nat))).tape = wr.tape ∧ (wr.setCell ⟨d, 2, none⟩ (.int .u64 (ex : Nat))).output = wr.output := ⟨rfl, rfl, rfl⟩
  obtain ⟨w3, hw3⟩ : ∃ w3, w3 = wr.setCell ⟨d, 2, none⟩ (.int .u64 (ex : Nat)) := ⟨_, rfl⟩
  rw [← hw3] at far hsz hb e3 ⊢
  clear hw3
  have hz := h.off.size
  obtain ⟨d1, d2⟩ := h.dl
  have ndd : ∀ {b : Nat} {cs : Array Value} {t' : TypeId} {z : Nat × Nat}, t' ≠ 47 → wr.heap[b]? = some (.cells cs t' z) → b ≠ d := by
    rintro b cs t' z ht hh rfl
    have := h.blk
    unfold Blk at this
    rw [this] at hh
    simp only [Option.some.injEq, Obj.cells.injEq] at hh
    exact ht hh.2.1.symm
  refine ⟨⟨A, c, l, ⟨d1, by omega⟩, hb, h.cap, ?_, fun x hx => ?_, fun i x hx => by have := h.seq i x hx; subst hn; exact this, fun b hb => hb, rfl, by omega, by rw [← hn]; exact hn2, hnx, he1, he2⟩, rdb_keep h.rdb (far s (by omega)) (fun b hb _ _ => far b (by omega)) (by omega), ⟨e3.1.trans h.off.os, e3.2.1.trans h.off.tape, e3.2.2.trans h.off.output, by omega, fun b hb hbs => (far b (by omega)).trans (h.off.block b hb hbs)⟩⟩
  · have hr := own_keep (w' := w3) h.row (fun b _ _ hh => by obtain ⟨cs, z, hh⟩ := hh; exact far b (ndd (by decide) hh))
    obtain ⟨A', c', e, _, hrow⟩ := own_row hr
    simp only [Value.slice.injEq] at e
    obtain ⟨rfl, _, rfl⟩ := e
    exact hrow
  · obtain ⟨h1, h2, h3, h4, b, p, cs, z, e, hF, hh, hc⟩ := h.at_ x hx
    have k2 := far b (ndd (by decide) hh)
    exact ⟨h1, h2, h3, h4, b, p, cs, z, e, ⟨hF.1, by omega⟩, k2.trans hh, fun i y hy => (World.cell?_of_block k2).trans (hc i y hy)⟩
end
end Lk
end Go.Proofs.Ytifoheodcbjapaa

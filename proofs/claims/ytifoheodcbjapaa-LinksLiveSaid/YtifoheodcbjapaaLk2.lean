/-
link: a copy of bytes; what Send makes.
-/
import Derived.Test.YtifoheodcbjapaaLk
import Derived.Test.YtifoheodcbjapaaAppNew
import Derived.Test.YtifoheodcbjapaaRows2
import Derived.Laws.MakeOwn
import Derived.Deep.OwnRows
import Derived.Deep.CutRange
namespace Go.Proofs.Ytifoheodcbjapaa
open Go.RowKit
set_option linter.unusedSimpArgs false
set_option linter.unusedVariables false
namespace Lk
section
variable (W : World)
theorem bclone_any (A : Option Addr) (m c : Nat) (bs : List Nat) (hn : bs.length = m) (hs : Src W A m (u8s bs)) (hm : m ≤ 140737488355328) : Calls Try.prog 42 #[.slice A m c] W fun e W' => ∃ v, e = .returned v ∧ W'.ownsRow W.heap.size 5 1 v bs.length (u8s bs) ∧ Below W.heap.size W W' := by
  subst hn
  cases A with
  | none =>
    have hb : bs = [] := by
      rcases hs with ⟨ad, e, _⟩ | ⟨_, _, h⟩
      · cases e
      · simpa [u8s] using h
    subst hb
    have hnil : ∀ w, (binOp .eql 38 (.slice none 0 c) (.slice none 0 0)).run Try.prog w = .ok (.bool true) w := fun w => Lib.run_eql_slice_nil (P := Try.prog) w 38 5 none 0 c 0 0 Try.underlying38
    go_enter Try.func42, Try.ntmps42
    go_wp2_with fail
    go_ret
    exact ⟨_, rfl, World.ownsRow_nil _ _ _ _, Below.refl _ _⟩
  | some ad =>
    have HS := Lib.hid hs
    have hlit : (W.alloc (.cells #[] 5)).ownsRow W.heap.size 5 1 (.slice (some ⟨W.heap.size, 0, none⟩) 0 0) 0 (u8s []) := World.ownsRow_lit (base := W.heap.size) (size := 1) (e := 5) W #[] 0 (Nat.le_refl _) (by unfold maxLen; omega) rfl
    have hb1 := (Below.refl W.heap.size W).alloc (Nat.le_refl _) (.cells #[] 5)
    have hs1 := hs.below hb1
    have HM := Lib.hid hm
    have hnil : ∀ w, (binOp .eql 38 (.slice (some ad) bs.length c) (.slice none 0 0)).run Try.prog w = .ok (.bool false) w := fun w => Lib.run_eql_slice_nil (P := Try.prog) w 38 5 (some ad) bs.length c 0 0 Try.underlying38
    clear hs hm
    go_enter Try.func42, Try.ntmps42
    go_wp2_with (first | (at_builtin; refine wpList_append_u8 _ rfl _ _ rfl W.heap.size _ 0 (u8s []) rfl hlit (some ad) bs.length c (u8s bs) rfl (u8s_len _) hs1 (u8s_one _) (by have := HM.out; omega) (by simp) ?_; intro v' W1 hown hgrow hloc; have HB := Lib.hid (ownG_below hgrow hlit (Nat.le_refl _) (by simp) hb1); rw [Nat.zero_add] at hown; have HO := Lib.hid hown; obtain ⟨A', c', rfl⟩ := slice_of hown; clear hown hgrow hloc))
    go_ret
    exact ⟨_, rfl, HO.out, HB.out⟩
end
theorem own_first {W : World} {B : Nat} {A : Option Addr} {m c : Nat} {bs : List Nat} (h : W.ownsRow B 5 1 (.slice A m c) bs.length (u8s bs)) (h0 : bs ≠ []) :
    m = bs.length ∧ bs.length ≤ c ∧ ∃ g, A = some ⟨g, 0, none⟩ ∧ B ≤ g ∧ g < W.heap.size ∧ (∃ cs z, W.heap[g]? = some (.cells cs 5 z)) ∧ ∀ (i y : Nat), bs[i]? = some y → W.cell? ⟨g, 0 + i, none⟩ = some (.int .u8 (y : Nat)) := by
  have h1 := h
  obtain ⟨hl, ⟨e, hz⟩ | ⟨g, cap, cur, e, hg, hh, hnc, _⟩⟩ := h
  · exact absurd (List.length_eq_zero_iff.1 hz) h0
  · simp only [Value.slice.injEq] at e
    obtain ⟨rfl, rfl, rfl⟩ := e
    refine ⟨rfl, hnc, g, rfl, hg, (h1.lt g rfl).2, ⟨cur, _, hh⟩, fun i y hy => ?_⟩
    have := h1.cells rfl i (.int .u8 (y : Nat)) (by unfold u8s; rw [List.getElem?_map, hy]; rfl)
    rwa [add_plain] at this
theorem info_it : ∃ i z, Try.prog.info? 70 = some i ∧ i.zero = some z ∧ i.size = 2 ∧ i.bytes = 32 ∧ z.cells.size = 2 := by
  have h : ((Try.prog.info? 70).bind fun i => i.zero.map fun z => (i.size, i.bytes, z.cells.size)) = some (2, 32, 2) := by kernel_rfl
  cases hi : Try.prog.info? 70 with
  | none => rw [hi] at h; cases h
  | some i =>
    rw [hi] at h
    simp only [Option.bind_some, Option.map_eq_some_iff, Prod.mk.injEq] at h
    obtain ⟨z, hz, h1, h2, h3⟩ := h
    exact ⟨i, z, rfl, hz, h1, h2, h3⟩
theorem itinfo (x : It) : (Try.prog.info? 70).map (·.size) = some x.cells.length := by rw [it_len]; kernel_rfl
theorem itinfoA (x : It) : (Try.prog.info? 70).map (·.size) = some x.cells.toArray.size := by rw [List.size_toArray, it_len]; kernel_rfl
theorem it_siz (x : It) : (2 : Nat) = x.cells.toArray.size := by rw [List.size_toArray, it_len]
/-- A new text of a link, in a box. -/
def NewIt (W w : World) (g : Nat) (x : It) : Prop := Below W.heap.size W w ∧ W.heap.size ≤ g ∧ Blk w g 70 x.cells.toArray ∧ x.At w (fun k => W.heap.size ≤ k ∧ k < w.heap.size)
theorem new_at {W w w' : World} {A : Option Addr} {c q : Nat} {bs : List Nat} (h256 : ∀ y ∈ bs, y < 256) (h1 : 1 ≤ bs.length) (h2 : bs.length ≤ 1800) (h : w.ownsRow W.heap.size 5 1 (.slice A bs.length c) bs.length (u8s bs))
    (hk : ∀ k, k < w.heap.size → (∃ cs z, w.heap[k]? = some (.cells cs 5 z)) → w'.heap[k]? = w.heap[k]?) (hs : w.heap.size ≤ w'.heap.size) : (It.mk q A c bs).At w' (fun k => W.heap.size ≤ k ∧ k < w'.heap.size) := by
  obtain ⟨-, hc, g, rfl, g1, g2, ⟨cs, z, hh⟩, hx⟩ := own_first h (by intro e; rw [e] at h1; simp at h1)
  have hk := hk g g2 ⟨cs, z, hh⟩
  exact ⟨h256, h1, h2, hc, g, 0, cs, z, rfl, ⟨g1, by omega⟩, hk.trans hh, fun i y hy => (World.cell?_of_block hk).trans (hx i y hy)⟩
/-- The end of a text that is sent. -/
theorem send_end {W w7 w9 : World} {B d c g r k : Nat} {F : Nat → Prop} {A : Option Addr} {l : List It} {s : LS} {x : It} {cs : Array Value} (D : Lnk W B d F A c l s) (hN : NewIt W w7 g x) (hq : x.q = s.nx) (h9 : Below w7.heap.size w7 w9)
    (hr : w7.heap.size ≤ r ∧ r < w9.heap.size) (hB : Blk w9 r 70 cs) (hcs : ∀ (j : Nat) v, (its (l ++ [x]))[j]? = some v → cs[j]? = some v) (hk : l.length + 1 ≤ k) (hl : l.length < 250) (hnx : s.nx ≤ 1099511627776) :
    LK ((w9.setCell ⟨d, 1, none⟩ (.slice (some ⟨r, 0, none⟩) (l.length + 1) k)).setCell ⟨d, 0, none⟩ (.int .u64 ((s.nx + 1 : Nat) : Int))) B d (Grow F W ((w9.setCell ⟨d, 1, none⟩ (.slice (some ⟨r, 0, none⟩) (l.length + 1) k)).setCell ⟨d, 0, none⟩ (.int .u64 ((s.nx + 1 : Nat) : Int)))) ⟨s.nx + 1, s.ex, s.ts ++ [x.bs]⟩ ∧
      Turn B (fun k => k = d) W ((w9.setCell ⟨d, 1, none⟩ (.slice (some ⟨r, 0, none⟩) (l.length + 1) k)).setCell ⟨d, 0, none⟩ (.int .u64 ((s.nx + 1 : Nat) : Int))) := by
  obtain ⟨w', hw⟩ : ∃ w', w' = (w9.setCell ⟨d, 1, none⟩ (.slice (some ⟨r, 0, none⟩) (l.length + 1) k)).setCell ⟨d, 0, none⟩ (.int .u64 ((s.nx + 1 : Nat) : Int)) := ⟨_, rfl⟩
  obtain ⟨h7, hg, hbx, hat⟩ := hN
  have hb := h7.trans (h9.mono h7.size)
  have D9 := D.next hb
  have hd := D.low d D.fd
  have hs7 := h7.size
  have hs9 := h9.size
  have hd' : Blk w' d 47 #[.int .u64 ((s.nx + 1 : Nat) : Int), .slice (some ⟨r, 0, none⟩) (l.length + 1) k, .int .u64 (s.ex : Nat)] := by rw [hw]; exact (D9.blk.setCell 1 _).setCell 0 _
  have hsz : w'.heap.size = w9.heap.size := by rw [hw]; simp [World.setCell]
  have far : ∀ j, j ≠ d → w'.heap[j]? = w9.heap[j]? := fun j hj => by rw [hw]; exact (Below.heap_setCell _ ⟨d, 0, none⟩ _ j hj).trans (Below.heap_setCell _ ⟨d, 1, none⟩ _ j hj)
  have hb' : Below B W w' := by
    rw [hw]
    exact ((hb.mono (by omega)).setCell (p := ⟨d, 1, none⟩) hd.1 _).setCell (p := ⟨d, 0, none⟩) hd.1 _
  rw [← hw]
  clear hw
  have old : ∀ j, j < W.heap.size → j ≠ d → w'.heap[j]? = W.heap[j]? := fun j hj hjd => (far j hjd).trans (hb.block j hj)
  have hrd : ∀ {b : Nat} {cs : Array Value} {z : Nat × Nat}, W.heap[b]? = some (.cells cs 5 z) → b ≠ d := by
    rintro b cs z hh rfl
    have := D.blk
    unfold Blk at this
    rw [this] at hh
    simp only [Option.some.injEq, Obj.cells.injEq] at hh
    exact absurd hh.2.1 (by decide)
  refine ⟨⟨some ⟨r, 0, none⟩, k, l ++ [x], Or.inl D.fd, by rw [List.length_append]; exact hd', by rw [List.length_append]; exact hk, Or.inr ⟨r, 0, cs, (0, 0), rfl, Or.inr ⟨by omega, by omega⟩, (far r (by omega)).trans hB, ?_⟩, ?_, ?_, ?_, ?_, ?_, ?_, ?_, D.e1, D.e2⟩, hb', fun j hj hF => old j hj hF⟩
  · intro i y hy j v hj
    rw [World.cell?_of_block (far r (by omega) : w'.heap[(⟨r, 0 + 2 * i + j, none⟩ : Addr).block]? = _), hB.cell, Nat.zero_add]
    refine hcs _ _ ?_
    rw [its_get _ i y j hy (by have := (List.getElem?_eq_some_iff.1 hj).1; rwa [it_len] at this)]
    exact hj
  · intro y hy
    rcases List.mem_append.1 hy with hy | hy
    · obtain ⟨h1, h2, h3, h4, b, p, cs, z, e, hF, hh, hc⟩ := D.at_ y hy
      have hk := old b (D.low b hF).2 (hrd hh)
      exact ⟨h1, h2, h3, h4, b, p, cs, z, e, Or.inl hF, hk.trans hh, fun i y hy => (World.cell?_of_block hk).trans (hc i y hy)⟩
    · simp only [List.mem_singleton] at hy
      subst hy
      refine hat.keep fun j hj => ⟨Or.inr ⟨hj.1, by omega⟩, (far j (by omega)).trans (h9.block j hj.2)⟩
  · intro i y hy
    rw [List.length_append]
    by_cases hi : i < l.length
    · rw [List.getElem?_append_left hi] at hy
      have := D.seq i y hy
      simp only [List.length_singleton]
      omega
    · rw [List.getElem?_append_right (by omega)] at hy
      have hi2 : i - l.length = 0 := by
        have := (List.getElem?_eq_some_iff.1 hy).1
        simp at this; omega
      rw [hi2] at hy
      simp only [List.getElem?_cons_zero, Option.some.injEq] at hy
      subst hy
      simp only [List.length_singleton]
      omega
  · rintro j (hj | ⟨h1, h2⟩)
    · have := D.low j hj; exact ⟨this.1, by omega⟩
    · exact ⟨by omega, h2⟩
  · rw [List.map_append, D.ts]; rfl
  · rw [List.length_append]; simp; omega
  · rw [List.length_append]; have := D.lt; simp; omega
  · show s.nx + 1 ≤ _; omega
end Lk
end Go.Proofs.Ytifoheodcbjapaa

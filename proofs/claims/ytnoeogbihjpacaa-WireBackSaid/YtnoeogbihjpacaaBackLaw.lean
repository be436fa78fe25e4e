/-
WireBack holds: of any parts, up to forty, what was written is read, part by part, and nothing is left; written again it is the same bytes; cut anywhere, it is too short. No condition.
-/
import Derived.Test.YtnoeogbihjpacaaBk2
namespace Go.Proofs.Ytnoeogbihjpacaa
open Go.ChangeShapes Go.WideShapes Go.ChangeAt Go.RowKit

theorem rowOf_ge {W : World} {B g : Nat} {bs : List Nat} (h : Wtr W B g bs) {k : Nat} (hk : rowOf W g = some k) : B ≤ k := by
  obtain ⟨_, v, hv, hown⟩ := h
  rw [rowOf_of hv] at hk
  exact (hown.lt k hk).1

/-- The first read: what was written is read, and written again. -/
theorem read_b1 (l : List PartR) (A Ab : Option Addr) (c cb c1 g2 : Nat) (W : World) (hg : g2 + 2 ≤ W.heap.size) (hW : Wtr W g2 g2 []) (hro : ∀ k, rowOf W g2 = some k → k ≤ g2)
    (hc1 : c1 < g2) (h1 : W.cell? ⟨c1, 0, none⟩ = some (.slice A l.length c)) (h2 : W.cell? ⟨g2 + 1, 0, none⟩ = some (.pointer (some ⟨g2, 0, none⟩)))
    (hl : l.length ≤ 40) (hP : l = [] ∨ ∃ b o, A = some ⟨b, o, none⟩ ∧ b < g2 ∧ ∀ i, (hi : i < l.length) → W.rangeAt b (o + i * 17) (l[i].cells))
    (hok : ∀ p ∈ l, p.Ok W g2 ∧ p.Good) (acc : List Nat) (hacc : acc = l.flatMap PartR.bytes)
    (hcb : acc.length ≤ cb) (hAb : acc = [] ∨ ∃ b p, Ab = some ⟨b, p, none⟩ ∧ b < g2 ∧ ∀ (i x : Nat), acc[i]? = some x → W.cell? ⟨b, p + i, none⟩ = some (.int .u8 (x : Nat))) :
    Calls Try.prog 17 #[.slice Ab acc.length cb, .func (.func 18) #[] #[.pointer (some ⟨c1, 0, none⟩), .pointer (some ⟨g2 + 1, 0, none⟩)]] W fun e W' =>
      e = .returned (.int .i64 0) ∧ Wtr W' g2 g2 acc ∧ Below g2 W W' ∧ W'.cell? ⟨g2 + 1, 0, none⟩ = some (.pointer (some ⟨g2, 0, none⟩)) := by
  have hg1 : g2 < W.heap.size := by omega
  have hlen := parts_len l (fun p hp => (hok p hp).1) (fun p hp => (hok p hp).2.m)
  have hlt := parts_lt l (fun p hp => (hok p hp).1)
  rw [← hacc] at hlen hlt
  have hparse : partsP l [] acc = .ok (acc, []) := by
    have := (parts_back l hok []).1 []
    rw [List.append_nil, List.nil_append, ← hacc] at this
    exact this
  refine (read_any4 (L := g2) Ab acc.length cb 18 _ W acc (fun r W2 => r = .ok [] ∧ Wtr W2 g2 g2 acc ∧ Below g2 W W2 ∧ W.heap.size ≤ W2.heap.size ∧ W2.heap[g2 + 1]? = W.heap[g2 + 1]? ∧ (∀ k, rowOf W2 g2 = some k → k < W.heap.size ∨ W.heap.size + 4 ≤ k))
    (fun args w => run_enter Try.func18 (by kernel_rfl) (by kernel_rfl) args w) rfl hcb (by omega) hAb ?_).mono ?_
  · intro W1 k s hb hs hk hs1 h4 _ hR hB
    have hrow : rowOf W1 g2 = rowOf W g2 := rowOf_same (hb.block g2 hg1)
    have hne : ∀ q, g2 < q → some q ≠ rowOf W1 g2 := fun q hq e => by
      rw [hrow] at e
      have := hro q e.symm
      omega
    have hne2 : ∀ q, q < g2 → some q ≠ rowOf W1 g2 := fun q hq e => by
      rw [hrow] at e
      have := rowOf_ge hW e.symm
      omega
    have hfree : ∀ q, q < g2 → Free s g2 q W1 := fun q hq => ⟨by omega, by omega, by omega, hne2 q hq⟩
    refine (bk1_any s k g2 g2 c1 (g2 + 1) A c l acc W1 ⟨⟨by omega, by omega, hR.1, hs1, hR.lt, by omega, hne s (by omega), hne k (by omega), Nat.le_refl _, by omega⟩, hR, hfree c1 hc1, ⟨by omega, by omega, by omega, hne _ (by omega)⟩,
      (hb.cell (p := ⟨c1, 0, none⟩) (by show c1 < _; omega)).trans h1, (hb.cell (p := ⟨g2 + 1, 0, none⟩) (by show g2 + 1 < _; omega)).trans h2, ?_, hl, fun p hp => (hok p hp).1.mo2, by omega, hlt⟩ hB (hW.next hb)).mono ?_
    · refine hP.imp id ?_
      rintro ⟨b, o, e, hbg, hr⟩
      exact ⟨b, o, e, hfree b hbg, fun i hi => range_below (hr i hi) hb (by omega)⟩
    · rintro e W2 ⟨hM, hE⟩
      rw [hparse] at hE
      obtain ⟨he, hR2, hW2⟩ := hE
      refine ⟨fun b h5 h6 h7 => hM.2.2.2.2.1 b h6 h7 (by omega) (hne b (by omega)), Or.inl ⟨[], he, hR2, rfl, hW2, ?_, Nat.le_trans hb.size hM.2.2.2.1, ?_, fun k hk => ?_⟩⟩
      · exact (hb.mono (by omega)).trans ⟨hM.1, hM.2.1, hM.2.2.1, hM.2.2.2.1, fun q hq => hM.2.2.2.2.1 q (by have := hb.size; omega) (by omega) (by omega) (hne2 q hq)⟩
      · exact (hM.2.2.2.2.1 _ (by have := hb.size; omega) (by omega) (by omega) (hne _ (by omega))).trans (hb.block _ (by omega))
      · rcases hM.2.2.2.2.2 k hk with h5 | h5
        · rw [hrow] at h5
          have := hro k h5
          left; omega
        · right; omega
  · rintro e W' ⟨r, W2, ⟨rfl, hW2, hb2, hsz, hcell, hrow⟩, he, hb3, hother⟩
    have hro2 : ∀ k, k < W2.heap.size → (k < W.heap.size ∨ W.heap.size + 4 ≤ k) → W'.heap[k]? = W2.heap[k]? := fun k h5 h6 => hother k h5 (by omega) (by omega)
    refine ⟨he, ?_, hb2.trans (hb3.mono (by omega)), ?_⟩
    · obtain ⟨hB, v, hv, hl', hown⟩ := id hW2
      refine ⟨hB, v, (hro2 g2 hW2.lt (Or.inl hg1)).trans hv, hl', hown.imp id ?_⟩
      rintro ⟨q, cap, cur, rfl, hq, hh, r⟩
      have hqlt : q < W2.heap.size := by
        rcases Nat.lt_or_ge q W2.heap.size with h5 | h5
        · exact h5
        · rw [Array.getElem?_eq_none h5] at hh; cases hh
      exact ⟨q, cap, cur, rfl, hq, (hro2 q hqlt (hrow q (by rw [rowOf_of hv]; rfl))).trans hh, r⟩
    · have e5 : W'.heap[g2 + 1]? = W.heap[g2 + 1]? := (hb3.block _ (by omega)).trans hcell
      simp only [World.cell?] at h2 ⊢
      rw [e5]
      exact h2

/-- The second read: cut, it is too short. -/
theorem read_b2 (l : List PartR) (A Ab : Option Addr) (c cb c1 n : Nat) (W : World) (hc1 : c1 < W.heap.size) (h1 : W.cell? ⟨c1, 0, none⟩ = some (.slice A l.length c))
    (hl : l.length ≤ 40) (hP : Parts W A l) (hok : ∀ p ∈ l, p.Ok W W.heap.size ∧ p.Good) (acc : List Nat) (hacc : acc = l.flatMap PartR.bytes) (hn : n < acc.length)
    (hcb : acc.length ≤ cb) (hAb : ByR W Ab acc) :
    Calls Try.prog 17 #[.slice Ab n cb, .func (.func 29) #[] #[.pointer (some ⟨c1, 0, none⟩)]] W fun e W' =>
      e = .returned (.int .i64 8) ∧ Below W.heap.size W W' := by
  have hlen := parts_len l (fun p hp => (hok p hp).1) (fun p hp => (hok p hp).2.m)
  have hlt := parts_lt l (fun p hp => (hok p hp).1)
  rw [← hacc] at hlen hlt
  have hparse : partsP l [] (acc.take n) = .error 8 := by
    have := (parts_back l hok []).2 n (by rw [← hacc]; exact hn)
    rwa [← hacc] at this
  refine (read_any (L := W.heap.size) Ab n cb 29 _ W (acc.take n) (fun r W2 => r = .error 8 ∧ Below W.heap.size W W2)
    (fun args w => run_enter Try.func29 (by kernel_rfl) (by kernel_rfl) args w) (by rw [List.length_take]; omega) (by omega) (Nat.le_refl _) ?_ ?_).mono ?_
  · rcases hAb with h5 | ⟨b, p, e, hb, hx⟩
    · rw [h5] at hn; simp at hn
    · refine Or.inr ⟨b, p, e, hb, fun i x hi => ?_⟩
      rw [List.getElem?_take] at hi
      split at hi
      · exact hx i x hi
      · cases hi
  · intro W1 k s hb hs hk hs1 _ hR hB
    refine (bk2_any s k c1 A c l (acc.take n) W1 ⟨hR, hb.size, by omega, (hb.cell (p := ⟨c1, 0, none⟩) hc1).trans h1, ?_, hl, fun p hp => ⟨(hok p hp).1.mo2, (hok p hp).2.k5, (hok p hp).2.k6⟩, by rw [List.length_take]; omega, fun x hx => hlt x (List.mem_of_mem_take hx)⟩ hB).mono ?_
    · refine hP.imp id ?_
      rintro ⟨b, o, e, hbg, hr⟩
      exact ⟨b, o, e, by omega, Nat.lt_of_lt_of_le hbg hb.size, fun i hi => range_below (hr i hi) hb hbg⟩
    · rintro e W2 ⟨hO, hE⟩
      rw [hparse] at hE
      refine ⟨fun b _ h6 h7 => hO.block b h6 h7, Or.inr ⟨8, by omega, hE.1, hE.2, rfl, hb.trans (hO.belowB hs hb.size)⟩⟩
  · rintro e W' ⟨r, W2, ⟨rfl, h5⟩, h6, h7⟩
    exact ⟨h6, h5.trans h7⟩
end Go.Proofs.Ytnoeogbihjpacaa

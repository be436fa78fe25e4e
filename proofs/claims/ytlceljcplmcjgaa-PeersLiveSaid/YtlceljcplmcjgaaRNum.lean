/-
The document's answers of layer 3: the bytes of a number; for seats that lack vectors.
-/
import Derived.Test.YtlceljcplmcjgaaWtrs
namespace Go.Proofs.Ytlceljcplmcjgaa
open Go.RowKit
set_option linter.unusedSimpArgs false
set_option linter.unusedVariables false
namespace Nd
/-- A call made this row of bytes, and left what was there. -/
def Made (W W' : World) (v : Value) (bs : List Nat) : Prop := W'.ownsRow W.heap.size 5 1 v bs.length (u8s bs) ∧ Below W.heap.size W W'
theorem src_own {W : World} {B : Nat} {v : Value} {bs : List Nat} (h : W.ownsRow B 5 1 v bs.length (u8s bs)) : ∃ A c, v = .slice A bs.length c ∧ Src W A bs.length (u8s bs) := by
  obtain ⟨hl, ⟨rfl, h0⟩ | ⟨k, cap, cur, rfl, hk, hh, hnc, hm, hsz, hcs⟩⟩ := id h
  · have hb0 : bs = [] := List.length_eq_zero_iff.1 h0
    subst hb0
    exact ⟨none, 0, rfl, Or.inr ⟨rfl, rfl, rfl⟩⟩
  · exact ⟨_, _, rfl, Or.inl ⟨_, rfl, h.cells rfl⟩⟩
theorem grown_below {B : Nat} {W W' : World} {v : Value} {n : Nat} {xs : List Value} (hown : W.ownsRow B 5 1 v n xs) (hg : W.grownBy W' v.ownBlock) (hB : B ≤ W.heap.size) : Below B W W' :=
  ⟨hg.os, hg.tape, hg.output, hg.size, fun k hk => hg.block k (by omega) (row_low hown hk)⟩
theorem own_le {W : World} {B B' : Nat} {v : Value} {n : Nat} {xs : List Value} (h : W.ownsRow B 5 1 v n xs) (hB : B' ≤ B) : W.ownsRow B' 5 1 v n xs := by
  obtain ⟨hl, h⟩ := h
  refine ⟨hl, h.imp id ?_⟩
  rintro ⟨g, cap, cur, e, hg, r⟩
  exact ⟨g, cap, cur, e, Nat.le_trans hB hg, r⟩
theorem own_next {W W' : World} {B : Nat} {v : Value} {n : Nat} {xs : List Value} (h : W.ownsRow B 5 1 v n xs) (hb : Below W.heap.size W W') (_hB : B ≤ W.heap.size) : W'.ownsRow B 5 1 v n xs := by
  obtain ⟨hl, h⟩ := h
  refine ⟨hl, h.imp id ?_⟩
  rintro ⟨g, cap, cur, e, hg, hh, r⟩
  refine ⟨g, cap, cur, e, hg, (hb.block g ?_).trans hh, r⟩
  rcases Nat.lt_or_ge g W.heap.size with h1 | h1
  · exact h1
  · rw [Array.getElem?_eq_none h1] at hh; cases hh
theorem own_one {W : World} {B : Nat} (c : Nat) (hB : B ≤ W.heap.size) : (W.alloc (.cells #[.int .u8 (c : Nat)] 5)).ownsRow B 5 1 (.slice (some ⟨W.heap.size, 0, none⟩) 1 1) 1 (u8s [c]) :=
  ⟨rfl, Or.inr ⟨_, 1, _, rfl, hB, heap_alloc_new W _, Nat.le_refl _, by simp [maxLen], rfl, rfl⟩⟩

set_option maxHeartbeats 1000000 in
theorem rfnum_any (n : Nat) (W : World) (hn : n < 18446744073709551616) :
    Calls Try.prog 40 #[.int .u64 (n : Nat)] W fun e W' => ∃ v, e = .returned v ∧ Made W W' v (enc n) := by
  have e1 : IntKind.u8.wrap ((n : Int) % 128) = ((n % 128 : Nat) : Int) := by rw [IntKind.wrap_u8]; omega
  have e2 : IntKind.u64.wrap ((n : Int) / 128) = ((n / 128 : Nat) : Int) := by rw [IntKind.wrap_u64]; omega
  have HN := Lib.hid hn
  have HL := Lib.hid (enc_len n hn)
  have HO := Lib.hid (own_one (W := W) (B := W.heap.size) (n % 128) (Nat.le_refl _))
  clear hn
  go_enter Try.func40, Try.ntmps40
  go_wp2_with fail
  go_loopw [0, 3] (fun nv ov wr => ∃ (cur : Nat) (ds : List Nat), nv = .int .u64 (cur : Nat) ∧ Hid (cur < 18446744073709551616 ∧ encHi cur ++ ds = enc n) ∧ Made W wr ov ds) (fun nv _ _ => (intOf nv).toNat)
  case atStart =>
    refine ⟨n / 128, [n % 128], ?_, Lib.hid ⟨?_, ?_⟩, ?_⟩
    · go_num
    · have := HN.out; omega
    · unfold enc; rfl
    · exact ⟨by simpa using HO.out, (Below.refl _ W).alloc (Nat.le_refl _) _⟩
  case round =>
    clear e1 e2 HO
    obtain ⟨cur, ds, rfl, HP, hM⟩ := hrel
    obtain ⟨A, c, rfl, hS⟩ := src_own hM.1
    have HM := Lib.hid hM
    clear hM
    by_cases hc : 0 < cur
    · have hc' : (0 : Int) < (cur : Int) := by omega
      have hcur := HP.out.1
      have e4 : IntKind.u64.wrap (128 + (cur : Int) % 128) = ((cur % 128 + 128 : Nat) : Int) := by rw [IntKind.wrap_u64]; omega
      have e5 : IntKind.u8.wrap ((cur % 128 + 128 : Nat) : Int) = ((cur % 128 + 128 : Nat) : Int) := by rw [IntKind.wrap_u8]; omega
      have e3 : IntKind.u64.wrap ((cur : Int) / 128) = ((cur / 128 : Nat) : Int) := by rw [IntKind.wrap_u64]; omega
      have hds : ds.length ≤ 10 := by
        have h1 := HL.out
        rw [← HP.out.2, List.length_append] at h1; omega
      have HO := Lib.hid (own_one (W := wr) (B := W.heap.size) (cur % 128 + 128) HM.out.2.size)
      have HS := Lib.hid (hS.below ((Below.refl _ wr).alloc (Nat.le_refl _) (.cells #[.int .u8 ((cur % 128 + 128 : Nat) : Int)] 5)))
      have HC := Lib.hid hc
      have HDS := Lib.hid hds
      have HZ := Lib.hid HM.out.2.size
      clear hc hS hcur hds hc'
      obtain ⟨x, hx⟩ : ∃ x, x = cur % 128 + 128 := ⟨_, rfl⟩
      rw [← hx] at e4 e5 HO HS
      have hc' : (0 : Int) < (cur : Int) := by have := HC.out; omega
      have HX := Lib.hid hx
      clear hx
      go_wp2_with (first | (refine wpList_append_u8 _ rfl _ _ rfl W.heap.size _ 1 (u8s [x]) rfl HO.out A ds.length c (u8s ds) rfl (u8s_len _) HS.out (u8s_one ds) (by have := HDS.out; omega) (by have := HZ.out; simp; omega) ?_; intro v' W1 hown1 hgrow _; have HG := Lib.hid hgrow; clear hgrow))
      refine ⟨⟨cur / 128, x :: ds, rfl, Lib.hid ⟨by have := HP.out.1; omega, ?_⟩, ?_⟩, by have := HC.out; simp [intOf]; omega⟩
      · rw [← HP.out.2, encHi_step HC.out, List.append_assoc, HX.out]; rfl
      · refine ⟨by rw [show u8s (x :: ds) = u8s [x] ++ u8s ds from rfl, List.length_cons, Nat.add_comm]; exact hown1, ?_⟩
        have b1 := (Below.refl _ wr).alloc (Nat.le_refl _) (.cells #[.int .u8 (x : Nat)] 5)
        exact (HM.out.2.trans (b1.mono HZ.out)).trans (grown_below HO.out HG.out (by have := HZ.out; simp; omega))
    · obtain rfl : cur = 0 := by omega
      clear hS hc
      go_wp2_with fail
      go_ret
      have := HP.out.2
      rw [encHi_zero, List.nil_append] at this
      exact ⟨_, rfl, this ▸ HM.out⟩
theorem lit_src {w : World} {bs : List Nat} {C : Array Value} {z : Nat × Nat} (h : C = (u8s bs).toArray) : Src (w.alloc (.cells C 5 z)) (some ⟨w.heap.size, 0, none⟩) bs.length (u8s bs) := by
  refine Or.inl ⟨_, rfl, fun j u hj => ?_⟩
  have hh := heap_alloc_new w (Obj.cells C 5 z)
  rw [add_plain, Nat.zero_add, cell_of_row _ w.heap.size _ _ _ _ hh, h, List.getElem?_toArray]
  exact hj
theorem nds_grown {w w' : World} {B base n : Nat} {v vl : Value} {xs : List Value} {l : List Nat} (hN : Nds w base vl l) (hown : w.ownsRow B 5 1 v n xs) (hg : w.grownBy w' v.ownBlock) : Nds w' base vl l := by
  refine ⟨hN.1, hN.2.imp id ?_⟩
  rintro ⟨q, o, cap, cur, e1, hb, hq, r⟩
  refine ⟨q, o, cap, cur, e1, hb, (hg.block q (Array.getElem?_eq_some_iff.1 hq).1 (fun e => ?_)).trans hq, r⟩
  rcases hown.2 with ⟨rfl, _⟩ | ⟨k, cap2, cur2, rfl, _, hh, _⟩
  · cases e
  · simp only [Value.ownBlock, Option.some.injEq] at e
    subst e
    rw [hq] at hh
    simp only [Option.some.injEq, Obj.cells.injEq] at hh
    exact absurd hh.2.1 (by decide)
end Nd
end Go.Proofs.Ytlceljcplmcjgaa

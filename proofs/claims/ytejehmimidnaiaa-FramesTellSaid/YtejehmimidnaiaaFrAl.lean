/-
frames: the fixed test of each law.
-/
import Derived.Test.YtejehmimidnaiaaFr5
namespace Go.Proofs.Ytejehmimidnaiaa
open Go.RowKit
open Byt
set_option linter.unusedSimpArgs false
set_option linter.unusedVariables false

namespace Fr
theorem sum_ab : Crc.sum [3, 97, 98] ≠ Crc.sum [3, 120, 98] := by decide +kernel
theorem fine_ab : ∀ x ∈ [97, 98], x < 256 := by decide
theorem read_two : readB 3 9 (frame 3 [97, 98] ++ [0, 0]) = ([(3, [97, 98])], 11, 0) := by
  rw [readB_frame [0, 0] (by decide) (by decide) (by decide) fine_ab, readB_nil (whole_not (by decide)), frame_len]
  rfl
theorem read_ten : readB 3 9 ((frame 3 [97, 98]).take 10) = ([], 0, 0) := by
  have := whole_torn (k := 3) (d := [97, 98]) 10 0 (by decide) (by rw [frame_len]; decide)
  rw [List.replicate_zero, List.append_nil] at this
  exact readB_nil this
theorem set_four (s : Nat) : ([90, 3, 0, 2] ++ [97, 98] ++ big4 s ++ [165]).set 4 120 = [90, 3, 0, 2, 120, 98, s / 16777216 % 256, s / 65536 % 256, s / 256 % 256, s % 256, 165] := rfl
theorem frame_ab : frame 3 [97, 98] = [90, 3, 0, 2] ++ [97, 98] ++ big4 (Crc.sum [3, 97, 98]) ++ [165] := by unfold frame; simp
theorem whole_bad (s0 s1 s2 s3 : Nat) : whole [90, 3, 0, 2, 120, 98, s0, s1, s2, s3, 165] = 11 := by
  have h0 : at' [90, 3, 0, 2, 120, 98, s0, s1, s2, s3, 165] 0 = 90 := rfl
  have h2 : at' [90, 3, 0, 2, 120, 98, s0, s1, s2, s3, 165] 2 = 0 := rfl
  have h3 : at' [90, 3, 0, 2, 120, 98, s0, s1, s2, s3, 165] 3 = 2 := rfl
  have h10 : at' [90, 3, 0, 2, 120, 98, s0, s1, s2, s3, 165] 10 = 165 := rfl
  have hl : [90, 3, 0, 2, 120, 98, s0, s1, s2, s3, 165].length = 11 := rfl
  unfold whole
  rw [h0, h2, h3, hl, h10, if_neg (by decide), if_neg (by decide)]
theorem err_bad (s0 s1 s2 s3 s : Nat) (hs : s0 * 16777216 + s1 * 65536 + s2 * 256 + s3 = s) (hne : s ≠ Crc.sum [3, 120, 98]) : errOf 3 9 [90, 3, 0, 2, 120, 98, s0, s1, s2, s3, 165] 11 = 9 := by
  have h1 : sumAt [90, 3, 0, 2, 120, 98, s0, s1, s2, s3, 165] 11 = s := by
    rw [← hs]; rfl
  have h2 : kindOf [90, 3, 0, 2, 120, 98, s0, s1, s2, s3, 165] = 3 := rfl
  have h3 : dataOf [90, 3, 0, 2, 120, 98, s0, s1, s2, s3, 165] 11 = [120, 98] := rfl
  unfold errOf
  rw [h1, h2, h3, if_neg (by decide), if_neg hne]
theorem read_bad : readB 3 9 ((frame 3 [97, 98]).set 4 120) = ([], 0, 9) := by
  rw [frame_ab, set_four]
  have hw := whole_bad (Crc.sum [3, 97, 98] / 16777216 % 256) (Crc.sum [3, 97, 98] / 65536 % 256) (Crc.sum [3, 97, 98] / 256 % 256) (Crc.sum [3, 97, 98] % 256)
  have he := err_bad _ _ _ _ _ (big4_sum (s := Crc.sum [3, 97, 98]) (Crc.sum_lt (by decide))) sum_ab
  rw [readB_bad (by rw [hw]; decide) (by rw [hw, he]; decide), hw, he]
end Fr
/-- A row of bytes that is not empty. -/
theorem own_blk {W : World} {B n : Nat} {v : Value} {bs : List Nat} (h : W.ownsRow B 5 1 v n (u8s bs)) (h0 : n ≠ 0) :
    ∃ g cap cur, v = .slice (some ⟨g, 0, none⟩) n cap ∧ B ≤ g ∧ n ≤ cap ∧ Blk W g 5 cur ∧ ∀ (i x : Nat), bs[i]? = some x → cur[i]? = some (.int .u8 (x : Nat)) := by
  have h1 := h
  obtain ⟨hl, ⟨e, hz⟩ | ⟨g, cap, cur, e, hg, hh, hnc, r⟩⟩ := h
  · exact absurd hz h0
  · refine ⟨g, cap, cur, e, hg, hnc, hh, fun i x hx => ?_⟩
    subst e
    have := h1.cells rfl i (.int .u8 (x : Nat)) (by unfold u8s; rw [List.getElem?_map, hx]; rfl)
    rw [add_plain, Nat.zero_add] at this
    rw [← Blk.cell (show Blk W g 5 cur from hh)]
    exact this
theorem blk_byt {W : World} {g : Nat} {cur : Array Value} {bs : List Nat} (h : Blk W g 5 cur) (hc : ∀ (i x : Nat), bs[i]? = some x → cur[i]? = some (.int .u8 (x : Nat))) : ByT W (some ⟨g, 0, none⟩) bs :=
  Or.inr ⟨g, 0, rfl, ⟨_, _, h⟩, fun i x hx => by rw [Nat.zero_add, h.cell]; exact hc i x hx⟩
theorem rec_row {W : World} {B : Nat} {v : Value} {l : List Rc} (h : W.ownsRow B 24 2 v l.length (rcs l)) (h0 : l.length ≠ 0) :
    ∃ g c, v = .slice (some ⟨g, 0, none⟩) l.length c ∧ (∀ i x, l[i]? = some x → W.cell? ⟨g, 2 * i, none⟩ = some (.int .i64 x.k)) ∧ ∀ i x, l[i]? = some x → W.cell? ⟨g, 2 * i + 1, none⟩ = some (.slice x.A x.bs.length x.c) := by
  have h1 := h
  obtain ⟨hl, ⟨e, hz⟩ | ⟨g, cap, cur, e, hg, hh, hnc, r⟩⟩ := h
  · exact absurd hz h0
  · subst e
    refine ⟨g, cap, rfl, fun i x hx => ?_, fun i x hx => ?_⟩
    · have := h1.cells rfl (2 * i + 0) (.int .i64 x.k) (by rw [rcs_get l i x 0 hx (by decide)]; rfl)
      rwa [add_plain, Nat.zero_add] at this
    · have := h1.cells rfl (2 * i + 1) (.slice x.A x.bs.length x.c) (by rw [rcs_get l i x 1 hx (by decide)]; rfl)
      rwa [add_plain, Nat.zero_add] at this
theorem byt_cell {W : World} {g : Nat} {bs : List Nat} (h : ByT W (some ⟨g, 0, none⟩) bs) (i x : Nat) (hx : bs[i]? = some x) : W.cell? ⟨g, i, none⟩ = some (.int .u8 (x : Nat)) := by
  rcases h with rfl | ⟨b, p, e, _, hc⟩
  · simp at hx
  · simp only [Option.some.injEq, Addr.mk.injEq] at e
    obtain ⟨rfl, rfl, -⟩ := e
    have := hc i x hx
    rwa [Nat.zero_add] at this
theorem lit_byr {w : World} {bs : List Nat} {z : Nat × Nat} {C : Array Value} (hC : C = (u8s bs).toArray) : ByR (w.alloc (.cells C 5 z)) (some ⟨w.heap.size, 0, none⟩) bs :=
  Or.inr ⟨w.heap.size, 0, rfl, by simp, fun i x hx => by rw [Nat.zero_add, hC, cell_of_row _ _ _ _ _ z (heap_alloc_new w _), List.getElem?_toArray]; unfold u8s; rw [List.getElem?_map, hx]; rfl⟩
set_option maxHeartbeats 4000000 in
set_option maxRecDepth 20000 in
theorem alive_any (W : World) : Calls Try.prog 6 #[] W fun e W' => e = .returned (.bool true) ∧ Below W.heap.size W W' := by
  obtain ⟨fr, hfr⟩ : ∃ fr, fr = Fr.frame 3 [97, 98] := ⟨_, rfl⟩
  have F1 := Lib.hid (show Fr.readB 3 9 (fr ++ [0, 0]) = ([(3, [97, 98])], 11, 0) by rw [hfr]; exact Fr.read_two)
  have F2 := Lib.hid (show Fr.readB 3 9 (fr.set 4 120) = ([], 0, 9) by rw [hfr]; exact Fr.read_bad)
  have F3 := Lib.hid (show Fr.readB 3 9 (fr.take 10) = ([], 0, 0) by rw [hfr]; exact Fr.read_ten)
  have FL := Lib.hid (show fr.length = 11 by rw [hfr]; rfl)
  have F0 := Lib.hid (show fr[0]? = some 90 by rw [hfr]; rfl)
  have F10 := Lib.hid (show fr[10]? = some 165 by rw [hfr]; rfl)
  have F4 := Lib.hid (show fr[4]? = some 97 by rw [hfr]; rfl)
  have FX := Lib.hid (show ∀ x ∈ fr, x < 256 by
    rw [hfr]
    have h2 : ∀ s, ∀ x ∈ Fr.big4 s, x < 256 := by intro s x hx; unfold Fr.big4 at hx; simp at hx; omega
    intro x hx
    unfold Fr.frame at hx
    simp only [List.mem_append] at hx
    rcases hx with ((hx | hx) | hx) | hx
    · simp at hx; omega
    · exact Fr.fine_ab x hx
    · exact h2 _ x hx
    · simp at hx; omega)
  have hw := write_yes (W.alloc (.cells #[.int .u8 97, .int .u8 98] 5 (2, 3))) 3 (by decide) (by decide) (some ⟨W.heap.size, 0, none⟩) 2 2 [97, 98] rfl (by decide) (lit_byr rfl) (fun e => by cases e) Fr.fine_ab
  rw [← hfr] at hw
  have HW := Lib.hid hw
  have HB1 := Lib.hid ((Below.refl W.heap.size W).alloc (Nat.le_refl _) (.cells #[.int .u8 97, .int .u8 98] 5 (2, 3)))
  have kc := fun (w : World) (C : Array Value) (n c : Nat) => Lib.run_convert_bytes_const (P := Try.prog) w 22 5 C n c Try.underlying22 Try.underlying5
  clear hw hfr
  go_enter Try.func6, Try.ntmps6
  go_upto_region 2 with (go_at_call 8; refine HW.out.mono ?_; rintro e w2 ⟨v2, rfl, hown, hb⟩; have HO2 := Lib.hid hown; have HB2 := Lib.hid (HB1.out.trans (hb.mono HB1.out.size)); clear hown hb HW HB1)
  obtain ⟨g2, c2, cur2, rfl, hg2, hc2, hX2, hcu2⟩ := own_blk HO2.out (by decide)
  have HX2 := Lib.hid hX2
  have HC2 := Lib.hid hc2
  have HU2 := Lib.hid hcu2
  have HY2 := Lib.hid (blk_byt hX2 hcu2)
  have hlit : (w2.alloc (.cells #[] 5)).ownsRow w2.heap.size 5 1 (.slice (some ⟨w2.heap.size, 0, none⟩) 0 0) 0 (u8s []) := World.ownsRow_lit (base := w2.heap.size) (size := 1) (e := 5) w2 #[] 0 (Nat.le_refl _) (by unfold maxLen; omega) rfl
  have hl1 := (Below.refl w2.heap.size w2).alloc (Nat.le_refl _) (.cells #[] 5)
  have HL := Lib.hid (And.intro hlit hl1)
  have HS2 := Lib.hid (show Src (w2.alloc (.cells #[] 5)) (some ⟨g2, 0, none⟩) 11 (u8s fr) from FL.out ▸ (HY2.out.next hl1).byr.src (fun e => by cases e))
  clear hg2 hc2 hX2 hcu2 hlit hl1
  go_upto_region 3 with (first
    | (at_builtin; refine wpList_append_u8 _ rfl _ _ rfl w2.heap.size _ 0 (u8s []) rfl HL.out.1 (some ⟨g2, 0, none⟩) 11 c2 (u8s fr) rfl (by rw [u8s_len]; exact FL.out) HS2.out (u8s_one _) (by decide) (by simp) ?_; intro v3 w3 hown hgrow hloc; have HB3 := Lib.hid (ownG_below hgrow HL.out.1 (Nat.le_refl _) (by simp) HL.out.2); have hown : w3.ownsRow w2.heap.size 5 1 v3 11 (u8s fr) := (by rw [Nat.zero_add] at hown; exact hown); have hb4 := (Below.refl w3.heap.size w3).alloc (Nat.le_refl _) (.cells #[.int .u8 0, .int .u8 0] 5); have HO4 := Lib.hid (ownG_next hown hb4); have HB4 := Lib.hid (HB3.out.trans (hb4.mono HB3.out.size)); have HS4 := Lib.hid (lit_byr (w := w3) (bs := [0, 0]) (z := (0, 0)) (C := #[.int .u8 0, .int .u8 0]) rfl); clear hown hgrow hloc hb4 HB3 HL HS2)
    | (at_builtin; refine wpList_append_u8 _ rfl _ _ rfl w2.heap.size _ 11 (u8s fr) rfl HO4.out (some ⟨w3.heap.size, 0, none⟩) 2 2 (u8s [0, 0]) rfl rfl (HS4.out.src (fun e => by cases e)) (u8s_one _) (by decide) HB4.out.size ?_; intro v5 w5 hown hgrow hloc; have HB5 := Lib.hid (ownG_below hgrow HO4.out (Nat.le_refl _) HB4.out.size HB4.out); have HO5 := Lib.hid (show w5.ownsRow w2.heap.size 5 1 v5 13 (u8s (fr ++ [0, 0])) from (by rw [u8s_app]; exact hown)); obtain ⟨g5, c5, cur5, rfl, hg5, hc5, hX5, hcu5⟩ := own_blk HO5.out (by decide); have hR := read_any w5 (some ⟨g5, 0, none⟩) 13 c5 (fr ++ [0, 0]) (by rw [List.length_append, FL.out]; rfl) (by decide) hc5 (blk_byt hX5 hcu5).byr (fun x hx => (List.mem_append.1 hx).elim (FX.out x) (by simp; omega)); rw [F1.out] at hR; have HR := Lib.hid hR; clear hown hgrow hloc hR hg5 hc5 hX5 hcu5 HO5 HO4 HS4 HB4)
    | (go_at_call 9; refine HR.out.mono ?_; rintro e w6 ⟨v6, l6, rfl, hown, hrec, hb⟩; have HO6 := Lib.hid hown; have HL6 := Lib.hid hrec; have HB26 := Lib.hid (HB5.out.trans (hb.mono HB5.out.size)); clear hown hrec hb HR HB5))
  have hlit : (w6.alloc (.cells #[] 5)).ownsRow w6.heap.size 5 1 (.slice (some ⟨w6.heap.size, 0, none⟩) 0 0) 0 (u8s []) := World.ownsRow_lit (base := w6.heap.size) (size := 1) (e := 5) w6 #[] 0 (Nat.le_refl _) (by unfold maxLen; omega) rfl
  have hl1 := (Below.refl w6.heap.size w6).alloc (Nat.le_refl _) (.cells #[] 5)
  have HL := Lib.hid (And.intro hlit hl1)
  have HY6 := Lib.hid (HY2.out.next HB26.out)
  have HS6 := Lib.hid (show Src (w6.alloc (.cells #[] 5)) (some ⟨g2, 0, none⟩) 11 (u8s fr) from FL.out ▸ (HY6.out.next hl1).byr.src (fun e => by cases e))
  have HB6 := Lib.hid (HB2.out.trans (HB26.out.mono HB2.out.size))
  clear hlit hl1 HY2 HX2 HU2 HB2 HB26
  go_upto_region 4 with (at_builtin; refine wpList_append_u8 _ rfl _ _ rfl w6.heap.size _ 0 (u8s []) rfl HL.out.1 (some ⟨g2, 0, none⟩) 11 c2 (u8s fr) rfl (by rw [u8s_len]; exact FL.out) HS6.out (u8s_one _) (by decide) (by simp) ?_; intro v7 w7 hown hgrow hloc; have HB7 := Lib.hid (ownG_below hgrow HL.out.1 (Nat.le_refl _) (by simp) HL.out.2); have hown : w7.ownsRow w6.heap.size 5 1 v7 11 (u8s fr) := (by rw [Nat.zero_add] at hown; exact hown); obtain ⟨g7, c7, cur7, rfl, hg7, hc7, hX7, hcu7⟩ := own_blk hown (by decide); have HX7 := Lib.hid hX7; have HU7 := Lib.hid (And.intro hg7 (And.intro hc7 hcu7)); clear hown hgrow hloc HL HS6 hg7 hc7 hX7 hcu7)
  have k4 : w7.cell? ⟨g7, 4, none⟩ = some (.int .u8 97) := (HX7.out.cell 4).trans (HU7.out.2.2 4 97 F4.out)
  have z4 : w7.frozen? ⟨g7, 4, none⟩ = false := HX7.out.frozen 4
  go_upto_region 7 with fail
  obtain ⟨w8, hw8⟩ : ∃ w8, w8 = w7.setCell ⟨g7, 4, none⟩ (.int .u8 120) := ⟨_, rfl⟩
  have hX8 := HX7.out.setCell 4 (.int .u8 120)
  have hB8 := HB7.out.setCell (p := ⟨g7, 4, none⟩) HU7.out.1 (.int .u8 120)
  rw [← hw8] at hX8 hB8 ⊢
  have hcu8 : ∀ (i x : Nat), (fr.set 4 120)[i]? = some x → (cur7.setIfInBounds 4 (.int .u8 120))[i]? = some (.int .u8 (x : Nat)) := by
    intro i x hx
    rw [List.getElem?_set] at hx
    rw [Array.getElem?_setIfInBounds]
    by_cases h4 : 4 = i
    · subst h4
      rw [if_pos rfl, if_pos (by rw [FL.out]; decide)] at hx
      cases hx
      have h5 := HU7.out.2.2 4 97 F4.out
      have h6 := (Array.getElem?_eq_some_iff.1 h5).1
      rw [if_pos rfl, if_pos h6]
      rfl
    · rw [if_neg h4] at hx ⊢
      exact HU7.out.2.2 i x hx
  have hR := read_any w8 (some ⟨g7, 0, none⟩) 11 c7 (fr.set 4 120) (by rw [List.length_set, FL.out]) (by decide) HU7.out.2.1 (blk_byt hX8 hcu8).byr (fun x hx => by
    rcases List.mem_or_eq_of_mem_set hx with h | h
    · exact FX.out x h
    · omega)
  rw [F2.out] at hR
  have HR := Lib.hid hR
  have HB8 := Lib.hid hB8
  clear hw8 hX8 hB8 hcu8 hR k4 z4 HX7 HU7 HB7
  go_upto_region 8 with (go_at_call 9; refine HR.out.mono ?_; rintro e w9 ⟨v9, l9, rfl, hown, hrec, hb⟩; have HB69 := Lib.hid (HB8.out.trans (hb.mono HB8.out.size)); clear hown hrec hb HR HB8)
  have HY9 := Lib.hid (HY6.out.next HB69.out)
  have hc20 : ¬ c2 = 0 := by have := HC2.out; omega
  have hc21 : (10 : Int) ≤ (c2 : Nat) := by have := HC2.out; omega
  have hc22 : 10 ≤ c2 := by have := HC2.out; omega
  have hR := read_any w9 (some ⟨g2, 0, none⟩) 10 c2 (fr.take 10) (by rw [List.length_take, FL.out]; rfl) (by decide) hc22 (byr_take 10 HY9.out.byr) (fun x hx => FX.out x (List.mem_of_mem_take hx))
  rw [F3.out] at hR
  have HR := Lib.hid hR
  clear hR
  go_upto_region 9 with (go_at_call 9; refine HR.out.mono ?_; rintro e w10 ⟨v10, l10, rfl, hown, hrec, hb⟩; have HB610 := Lib.hid (HB69.out.trans (hb.mono HB69.out.size)); have HL10 := Lib.hid hrec; have HO10 := Lib.hid hown; clear hown hrec hb HR HB69)
  have HW := Lib.hid (write_no w10 0 none 0 0 (by decide))
  obtain ⟨x6, rfl, hx6k, hx6b⟩ : ∃ x : Rc, l6 = [x] ∧ x.k = 3 ∧ x.bs = [97, 98] := by
    have h := HL6.out.1
    match l6, h with
    | [x], h =>
      simp at h
      exact ⟨x, rfl, h.1, h.2⟩
    | [], h => simp at h
    | x :: y :: l, h => simp at h
  obtain ⟨g6, c6, rfl, r0, r1⟩ := rec_row HO6.out (by simp)
  have rr0 := r0 0 x6 rfl
  have rr1 := r1 0 x6 rfl
  rw [hx6k] at rr0
  rw [hx6b] at rr1
  obtain ⟨-, ht6, hn6⟩ := HL6.out.2 x6 (by simp)
  rw [hx6b] at ht6 hn6
  obtain ⟨xA, hxA⟩ : ∃ A, A = x6.A := ⟨_, rfl⟩
  obtain ⟨xc, hxc⟩ : ∃ A, A = x6.c := ⟨_, rfl⟩
  rw [← hxA] at rr1 ht6 hn6
  rw [← hxc] at rr1
  have HT6 := Lib.hid ht6
  have HN6 := Lib.hid hn6
  have HRR0 := Lib.hid rr0
  have HRR1 := Lib.hid rr1
  have hl10 : l10 = [] := by simpa using HL10.out.1
  subst hl10
  obtain ⟨A10, c10, rfl, -⟩ := ownG_slice HO10.out
  clear rr0 rr1 r0 r1 ht6 hn6 hxA hxc hx6k hx6b HO10 HL10 hc20 hc21 hc22 kc HO2 HY9 HL6 HO6
  go_upto_region 10 with (go_at_call 8; refine HW.out.mono ?_; rintro e w11 ⟨rfl, hb⟩; have HB11 := Lib.hid (HB610.out.trans (hb.mono HB610.out.size)); clear hb HW HB610)
  have y0 : w11.cell? ⟨g2, 0, none⟩ = some (.int .u8 90) := byt_cell (HY6.out.next HB11.out) 0 90 F0.out
  have y10 : w11.cell? ⟨g2, 10, none⟩ = some (.int .u8 165) := byt_cell (HY6.out.next HB11.out) 10 165 F10.out
  have r0 : w11.cell? ⟨g6, 0, none⟩ = some (.int .i64 3) := (HB11.out.cell (p := ⟨g6, 0, none⟩) (World.block_lt_of_cell? _ _ HRR0.out)).trans HRR0.out
  have r1 : w11.cell? ⟨g6, 1, none⟩ = some (.slice xA 2 xc) := (HB11.out.cell (p := ⟨g6, 1, none⟩) (World.block_lt_of_cell? _ _ HRR1.out)).trans HRR1.out
  have k1 := conv_src w11 xA 2 xc [97, 98] ((HT6.out.next HB11.out).byr.src HN6.out) rfl (by decide)
  rw [show bstr [97, 98] = ⟨#[97, 98]⟩ from by rw [bstr_lit]; rfl] at k1
  have HBF := Lib.hid (HB6.out.trans (HB11.out.mono HB6.out.size))
  clear F1 F2 F3 FL F0 F10 F4 FX HT6 HN6 HRR0 HRR1 HY6 HB6 HB11 HC2
  go_wp2_with fail
  go_ret
  exact ⟨rfl, HBF.out⟩
end Go.Proofs.Ytejehmimidnaiaa

/-
links: the fixed calls of the statements.
-/
import Derived.Test.YtifoheodcbjapaaLs11
namespace Go.Proofs.Ytifoheodcbjapaa
open Go.RowKit
set_option linter.unusedSimpArgs false
set_option linter.unusedVariables false
namespace Ls
open Lk
/-- The one packet that waits. -/
theorem one_packet {W w : World} {v : Value} {l : List (Nat × It)} (h : PkA W w v 1 l) (hm : l.map (fun y => (pcO 1 y).p) = [⟨false, 1, 2, 1, [120]⟩]) :
    ∃ (x : Pk.Pc) (g c : Nat), v = .slice (some ⟨g, 0, none⟩) 1 c ∧ x.p = ⟨false, 1, 2, 1, [120]⟩ ∧ W.heap.size ≤ g ∧ g < w.heap.size ∧ w.rangeAt g 0 x.cells ∧ x.Ok w ∧ (∀ a, x.A = some a → W.heap.size ≤ a.block ∧ a.block < w.heap.size) := by
  have hl : l.length = 1 := by have := congrArg List.length hm; simpa using this
  obtain ⟨y, rfl⟩ := List.length_eq_one_iff.1 hl
  simp only [List.map_cons, List.map_nil, List.cons.injEq, and_true] at hm
  have hrow := h.row
  obtain ⟨A, c, rfl, _, _, hA⟩ := ownG_slice hrow
  obtain ⟨_, hr⟩ := hrow
  rcases hr with ⟨_, h0⟩ | ⟨g, cap, cur, e, hg, hh, _⟩
  · simp at h0
  · simp only [Value.slice.injEq] at e
    obtain ⟨rfl, _, _⟩ := e
    have hat := h.at_ y (by simp)
    obtain ⟨h256, h1, h2, h3, b, p, cs, z, e2, hF, hh2, hc2⟩ := hat
    refine ⟨pcO 1 y, g, c, rfl, hm, hg, (Array.getElem?_eq_some_iff.1 hh).1, ?_, ⟨h3, h256, Or.inr ⟨b, p, e2, hF.2, hc2⟩, fun e => by unfold pcO at e; dsimp only at e; rw [e2] at e; cases e⟩, fun a ha => ?_⟩
    · intro j u hj
      have := h.row.cells rfl j u (by simpa [pcs] using hj)
      rwa [add_plain] at this
    · unfold pcO at ha
      dsimp only at ha
      rw [e2] at ha
      cases ha
      exact hF
theorem Pc_keep {w w' : World} {x : Pk.Pc} (h : x.Ok w) (hA : ∀ a, x.A = some a → w'.heap[a.block]? = w.heap[a.block]?) : x.Ok w' := by
  refine { h with rd := ?_ }
  rcases h.rd with e | ⟨b, p, e, h1, h2⟩
  · exact Or.inl e
  · have hk := hA ⟨b, p, none⟩ e
    refine Or.inr ⟨b, p, e, ?_, fun i y hy => ?_⟩
    · rw [show (⟨b, p, none⟩ : Addr).block = b from rfl, Array.getElem?_eq_getElem h1] at hk
      exact (Array.getElem?_eq_some_iff.1 hk).1
    exact (World.cell?_of_block (a := ⟨b, p + i, none⟩) (hA ⟨b, p, none⟩ e)).trans (h2 i y hy)
section
variable {W w w' : World} {P : Nat → Prop} {d own : Nat} {S : Nat → LS}
theorem AN.lt (h : AN W P w d own S) {k : Nat} (hk : P k) : k < w.heap.size := by
  obtain ⟨F, hK, hB, hP, hA⟩ := h
  exact (hP k hk).1
theorem an_packets_none (h : AN W P w d own S) (hn : pkts own S = []) : Calls Try.prog 17 #[.pointer (some ⟨d, 0, none⟩)] w fun e w' => ∃ A c, e = .returned (.slice A 0 c) ∧ Below w.heap.size w w' := by
  refine (an_packets h).mono ?_
  rintro e w' ⟨v, l, rfl, hp, hm, -⟩
  rw [hn] at hm
  have hl : l = [] := by simpa using hm
  subst hl
  obtain ⟨A, c, rfl, _⟩ := ownG_slice hp.row
  exact ⟨A, c, rfl, hp.b⟩
theorem an_hear_yes (h : AN W P w d own S) (x : Pk.Pc) (ho : x.Ok w) {z : Int} {S' : Nat → LS} (hb : hearB own S x.p = true) (hz : hearE own S x.p = z) (hS : hear own S x.p = S') :
    Calls Try.prog 12 #[.pointer (some ⟨d, 0, none⟩), .agg x.cells.toArray] w fun e w' => ∃ A c, e = .returned (.tuple #[.slice A x.p.bs.length c, .bool true, .int .i64 z]) ∧ w'.ownsRow w.heap.size 5 1 (.slice A x.p.bs.length c) x.p.bs.length (u8s x.p.bs) ∧ AN W (fun k => P k ∨ (Value.slice A x.p.bs.length c).ownBlock = some k) w' d own S' ∧ Kept P w w' := by
  refine (an_hear h x ho).mono ?_
  rintro e w' ⟨v, rfl, h1, _, h2, h3⟩
  have hown := h1 hb
  obtain ⟨A, c, rfl, _⟩ := ownG_slice hown
  rw [hS] at h2
  exact ⟨A, c, by rw [hb, hz], hown, h2, h3⟩
theorem an_hear_no (h : AN W P w d own S) (x : Pk.Pc) (ho : x.Ok w) {z : Int} {S' : Nat → LS} (hb : hearB own S x.p = false) (hz : hearE own S x.p = z) (hS : hear own S x.p = S') :
    Calls Try.prog 12 #[.pointer (some ⟨d, 0, none⟩), .agg x.cells.toArray] w fun e w' => e = .returned (.tuple #[.slice none 0 0, .bool false, .int .i64 z]) ∧ AN W P w' d own S' ∧ Kept P w w' := by
  refine (an_hear h x ho).mono ?_
  rintro e w' ⟨v, rfl, _, h1, h2, h3⟩
  rw [hS] at h2
  exact ⟨by rw [hb, hz, h1 hb], h2.sub (fun k hk => Or.inl hk), h3⟩
end
set_option maxHeartbeats 8000000 in
set_option maxRecDepth 20000 in
theorem alive_any (W : World) : Calls Try.prog 7 #[] W fun e W' => e = .returned (.bool true) ∧ Below W.heap.size W W' := by
  have HN := Lib.hid (an_new W W (Below.refl _ _) 1 (by decide) (by decide) (fun _ => False) (fun _ h => h.elim))
  have HN2 := Lib.hid (fun w => new_not w 13 (by decide))
  have kc := fun (w : World) (C : Array Value) (n c : Nat) => Lib.run_convert_bytes_const (P := Try.prog) w 38 5 C n c Try.underlying38 Try.underlying5
  obtain ⟨d, hd⟩ : ∃ d, d = W.heap.size := ⟨_, rfl⟩
  rw [← hd] at HN
  clear hd
  go_enter Try.func7, Try.ntmps7
  go_upto_region 3 with (first | (go_at_call 6; refine HN.out.mono ?_; rintro e w1 ⟨rfl, h, hb⟩; have H1 := Lib.hid h; clear h hb HN) | (go_at_call 6; refine (HN2.out _).mono ?_; rintro e w2 ⟨rfl, rfl⟩; clear HN2))
  have hb1 := (Below.refl w1.heap.size w1).alloc (Nat.le_refl _) (.cells #[.int .u8 120] 5 (1, 2))
  have HS1 := Lib.hid (an_send (H1.out.next hb1) 2 (some ⟨w1.heap.size, 0, none⟩) 1 1 [120] rfl (lit_src rfl) (by decide))
  rw [f1.1, f1.2.1, f1.2.2] at HS1
  clear hb1
  go_upto_region 4 with (first | (go_at_call 11; refine HS1.out.mono ?_; rintro e w2 ⟨rfl, h, -⟩; have H2 := Lib.hid h; clear h HS1 H1))
  have hb2 := (Below.refl w2.heap.size w2).alloc (Nat.le_refl _) (.cells #[.int .u8 120] 5 (1, 2))
  have HS2 := Lib.hid (an_send (H2.out.next hb2) 1 (some ⟨w2.heap.size, 0, none⟩) 1 1 [120] rfl (lit_src rfl) (by decide))
  rw [f2.1, f2.2.1, f2.2.2] at HS2
  clear hb2
  go_upto_region 5 with (first | (go_at_call 11; refine HS2.out.mono ?_; rintro e w3 ⟨rfl, h, -⟩; have H3 := Lib.hid h; clear h HS2 H2))
  have HP := Lib.hid (an_packets H3.out)
  go_upto_region 6 with (first | (go_at_call 17; refine HP.out.mono ?_; rintro e w4 ⟨vp, lp, rfl, hpa, hpm, -⟩; have HPA := Lib.hid hpa; have HPM := Lib.hid hpm; have H4 := Lib.hid (H3.out.more hpa.b); clear hpa hpm HP H3))
  obtain ⟨px, pg, pc, hvp, hpx, hpg1, hpg2, hpr, hpo, hpA⟩ := one_packet HPA.out (HPM.out.trans f3)
  subst hvp
  have HPX := Lib.hid (And.intro hpx (And.intro hpr (And.intro hpo hpA)))
  have HPG := Lib.hid (And.intro hpg1 hpg2)
  clear hpx hpr hpo hpA hpg1 hpg2 HPA HPM
  have hb4 := (Below.refl w4.heap.size w4).alloc (Nat.le_refl _) (.cells #[.int .u8 121] 5 (1, 2))
  have HH := Lib.hid (an_hear_yes (H4.out.next hb4) ⟨⟨false, 3, 1, 1, [121]⟩, some ⟨w4.heap.size, 0, none⟩, 1⟩ ⟨Nat.le_refl 1, (by show ∀ y ∈ [121], y < 256; decide), lit_byr rfl, fun e => by cases e⟩ f4.1 f4.2.1 f4.2.2)
  have HB4 := Lib.hid (H4.out.kept hb4)
  clear hb4
  go_upto_region 7 with (first | (go_at_call 12; refine HH.out.mono ?_; rintro e w5 ⟨Ab, cb, rfl, hown, h, hk⟩; have H5 := Lib.hid h; have HO5 := Lib.hid hown; have K5 := Lib.hid (Kept.trans HB4.out hk); clear h hown hk HH H4 HB4))
  have HA := Lib.hid (an_ack H5.out 3)
  rw [f5.1, f5.2.1] at HA
  go_upto_region 8 with (first | (go_at_call 14; refine HA.out.mono ?_; rintro e w6 ⟨rfl, hb⟩; have H6 := Lib.hid (H5.out.more hb); have K6 := Lib.hid (H5.out.kept hb); clear hb HA) | (refine wpList_store_blk rfl 40 _ _ rfl w6.heap.size 40 _ (Pk.Pc.mk ⟨true, 1, 3, 1, []⟩ none 0).cells.toArray rfl rfl (Blk.new w6 _ _) (Pk.pcinfoA _) rfl (Pk.pc_one _) ?_; intro hY; rw [Wr.alloc_setRow]))
  clear hY
  obtain ⟨w7, hw7⟩ : ∃ w7, w7 = w6.alloc (.cells (Pk.Pc.mk ⟨true, 1, 3, 1, []⟩ none 0).cells.toArray 40) := ⟨_, rfl⟩
  obtain ⟨ga, hga⟩ : ∃ ga, ga = w6.heap.size := ⟨_, rfl⟩
  have hb7 : Below w6.heap.size w6 w7 := by rw [hw7]; exact (Below.refl _ _).alloc (Nat.le_refl _) _
  have hB7 : Blk w7 ga 40 (Pk.Pc.mk ⟨true, 1, 3, 1, []⟩ none 0).cells.toArray := by rw [hw7, hga]; exact Blk.new _ _ _
  rw [← hw7, ← hga]
  have H7 := Lib.hid (H6.out.more hb7)
  have K7 := Lib.hid (H6.out.kept hb7)
  have HB7 := Lib.hid hB7
  have HGA := Lib.hid (show w6.heap.size ≤ ga ∧ ga < w7.heap.size from ⟨by omega, hB7.lt⟩)
  clear hw7 hga hb7 hB7 H6
  have HA := Lib.hid (an_ack H7.out 2)
  rw [f5.2.2.1, f5.2.2.2] at HA
  go_upto_region 9 with (first | (go_at_call 14; refine HA.out.mono ?_; rintro e w8 ⟨rfl, hb⟩; have H8 := Lib.hid (H7.out.next hb); have K8 := Lib.hid (H7.out.kept hb); clear hb HA H7) | (refine wpList_store_blk rfl 40 _ _ rfl w8.heap.size 40 _ zpc rfl rfl (Blk.new w8 _ _) zpcinfo rfl zpc_one ?_; intro hY; rw [Wr.alloc_setRow]))
  clear hY
  obtain ⟨w9, hw9⟩ : ∃ w9, w9 = w8.alloc (.cells zpc 40) := ⟨_, rfl⟩
  have hb9 : Below w8.heap.size w8 w9 := by rw [hw9]; exact (Below.refl _ _).alloc (Nat.le_refl _) _
  rw [← hw9]
  have H9 := Lib.hid (H8.out.next hb9)
  have K9 := Lib.hid (Kept.trans K8.out (H8.out.kept hb9))
  clear hw9 hb9 H8 K8
  have HH := Lib.hid (an_hear_no H9.out ⟨⟨true, 2, 1, 1, []⟩, none, 0⟩ ⟨Nat.le_refl 0, (by show ∀ y ∈ ([] : List Nat), y < 256; decide), Or.inl rfl, fun _ => rfl⟩ f6.1 f6.2.1 f6.2.2)
  go_upto_region 10 with (first | (go_at_call 12; refine HH.out.mono ?_; rintro e w10 ⟨rfl, h, hk⟩; have H10 := Lib.hid h; have K10 := Lib.hid (Kept.trans K9.out hk); clear h hk HH H9 K9))
  have HPE := Lib.hid (an_peers H10.out)
  rw [f7.1] at HPE
  have HSV := Lib.hid (fun w (hb : Below w10.heap.size w10 w) => an_save (H10.out.next hb))
  have HCV := Lib.hid (fun w => Sx.str_bytes w (encLS 1 s3) (encLS 1 s3).length rfl)
  have HLD := Lib.hid (fun w => str_load w H10.out.ok H10.out.any _ _ (HCV.out w))
  obtain ⟨en, hen⟩ : ∃ en, en = encLS 1 s3 := ⟨_, rfl⟩
  rw [← hen] at HSV HCV HLD
  clear hen
  go_upto_region 11 with (first | (go_at_call 16; refine HPE.out.mono ?_; rintro e w11 ⟨vk, rfl, hN, hb⟩; have HN11 := Lib.hid hN; have HB11 := Lib.hid hb; clear hN hb HPE))
  obtain ⟨Ak, ck, hvk⟩ := HN11.out.shape
  subst hvk
  have HS2 := Lib.hid (HSV.out w11 HB11.out)
  clear HSV
  go_upto_region 12 with (first | (go_at_call 20; refine HS2.out.mono ?_; rintro e w12 ⟨rfl, hb⟩; have hcv := HCV.out w12; have HB12 := Lib.hid hb; have HLD2 := Lib.hid (HLD.out w12); clear hb HS2 HCV HLD) | (go_at_call 22; refine HLD2.out.2.mono ?_; rintro e w13 ⟨dm, Fm, rfl, hK, hb⟩; have HM := Lib.hid hK; have HB13 := Lib.hid (HB12.out.trans ((HLD2.out.1.trans (hb.mono HLD2.out.1.size)).mono HB12.out.size)); clear hK hb hcv))
  clear HLD2
  have kp7 : ∀ k, (((((False ∨ (w3.heap.size ≤ k ∧ k < w4.heap.size)) ∨ (Value.slice Ab ([121] : List Nat).length cb).ownBlock = some k) ∨ (w5.heap.size ≤ k ∧ k < w6.heap.size)) ∨ (w6.heap.size ≤ k ∧ k < w7.heap.size))) → w13.heap[k]? = w7.heap[k]? := fun k hk =>
    (HB13.out.block k (Nat.lt_of_lt_of_le (H10.out.lt hk) HB11.out.size)).trans ((HB11.out.block k (H10.out.lt hk)).trans (K10.out k hk))
  have kp5 : ∀ k, ((False ∨ (w3.heap.size ≤ k ∧ k < w4.heap.size)) ∨ (Value.slice Ab ([121] : List Nat).length cb).ownBlock = some k) → w13.heap[k]? = w5.heap[k]? := fun k hk =>
    (kp7 k (Or.inl (Or.inl hk))).trans ((K7.out k (Or.inl hk)).trans (K6.out k hk))
  have kp4 : ∀ k, (w3.heap.size ≤ k ∧ k < w4.heap.size) → w13.heap[k]? = w4.heap[k]? := fun k hk =>
    (kp5 k (Or.inl (Or.inr hk))).trans (K5.out k (Or.inr hk))
  obtain ⟨px0, Ap, cp⟩ := px
  obtain ⟨hpx, hpr, hpo, hpA⟩ := HPX.out
  dsimp only at hpx
  subst hpx
  have HRP := Lib.hid (show w13.rangeAt pg 0 (Pk.Pc.mk ⟨false, 1, 2, 1, [120]⟩ Ap cp).cells from fun j v hj => (World.cell?_of_block (a := ⟨pg, 0 + j, none⟩) (kp4 pg HPG.out)).trans (hpr j v hj))
  have hpo13 := Pc_keep hpo (fun a ha => kp4 _ (hpA a ha))
  have hbl := (Below.refl w13.heap.size w13).alloc (Nat.le_refl _) (.cells #[.int .u8 120] 5 (1, 2))
  have HSM := Lib.hid (Pk.same_yes _ ⟨false, 1, 2, 1, [120]⟩ Ap (some ⟨w13.heap.size, 0, none⟩) cp 1 (hpo13.next hbl) ⟨Nat.le_refl 1, (by show ∀ y ∈ [120], y < 256; decide), lit_byr rfl, fun e => by cases e⟩)
  have HSN := Lib.hid (fun w => Pk.same_yes w ⟨true, 1, 3, 1, []⟩ none none 0 0 ⟨Nat.le_refl 0, (by show ∀ y ∈ ([] : List Nat), y < 256; decide), Or.inl rfl, fun _ => rfl⟩ ⟨Nat.le_refl 0, (by show ∀ y ∈ ([] : List Nat), y < 256; decide), Or.inl rfl, fun _ => rfl⟩)
  have HBL := Lib.hid hbl
  have hob := ownG_keep HO5.out (fun k hk => kp5 k (Or.inr hk))
  have HCB := Lib.hid (fun w (hb : Below w13.heap.size w13 w) => (by
    obtain ⟨A, c, e, _, hby, hA⟩ := Byt.own_byr (ownG_next hob hb)
    have := Byt.conv_src w A _ c [121] (hby.src hA) rfl (by decide)
    rw [← e, Byt.bstr_lit] at this
    exact this : (convert 38 9 (.slice Ab 1 cb)).run Try.prog w = .ok (.string ⟨#[121]⟩) w))
  have hba13 : Blk w13 ga 40 (Pk.Pc.mk ⟨true, 1, 3, 1, []⟩ none 0).cells.toArray := (kp7 ga (Or.inr HGA.out)).trans HB7.out
  have HAB := Lib.hid (fun w (hb : Below w13.heap.size w13 w) => (hba13.next hb).range)
  obtain ⟨kg, ko, kcc, ekk, hkg, hkc⟩ := (HN11.out.next HB13.out).at_ (i := 1) (n := 3) rfl
  simp only [Value.slice.injEq] at ekk
  obtain ⟨rfl, -, -⟩ := ekk
  have HKC := Lib.hid (fun w (hb : Below w13.heap.size w13 w) => ((hb.cell (p := ⟨kg, ko + 1, none⟩) hkg).trans hkc : w.cell? ⟨kg, ko + 1, none⟩ = some (.int .i64 ((3 : Nat) : Int))))
  have hb1013 : Below w10.heap.size w10 w13 := HB11.out.trans (HB13.out.mono HB11.out.size)
  have HPK := Lib.hid (fun w (hb : Below w13.heap.size w13 w) => an_packets_none (H10.out.next (hb1013.trans (hb.mono hb1013.size))) f7.2.1)
  have HRM := Lib.hid (fun w (hb : Below w13.heap.size w13 w) => an_room (H10.out.next (hb1013.trans (hb.mono hb1013.size))) 2)
  rw [f7.2.2] at HRM
  have HOW := Lib.hid (fun w (hb : Below w13.heap.size w13 w) => own_any w (HM.out.next hb))
  have HEND := Lib.hid (show Below W.heap.size W w13 from H10.out.b.trans (hb1013.mono H10.out.b.size))
  clear hba13 kp4 kp5 kp7 hpr hpo hpA hpo13 hbl hob hkg hkc hb1013 HPX HPG H5 HO5 K5 K6 K7 HB7 HGA H10 K10 HN11 HB11 HB13 HM
  go_upto_region 14 with fail
  simp only [List.append_eq, List.cons_append, List.nil_append]
  have hr := HRP.out
  go_wp2_with (first | (refine load_midg rfl 40 _ rfl _ _ rfl (Pk.Pc.mk ⟨false, 1, 2, 1, [120]⟩ Ap cp).cells _ hr Try.underlying40 rfl (Pk.pcinfo _) ?_; (try simp only [Act.put, List.setIfInBounds_toArray, List.set_cons_zero, List.set_cons_succ])) | (go_at_call 24; refine HSM.out.mono ?_; rintro e w14 ⟨rfl, hb14⟩; have HB14 := Lib.hid (HBL.out.trans (hb14.mono HBL.out.size)); have hcb := HCB.out w14 HB14.out; have ha := HAB.out w14 HB14.out; have HSN2 := Lib.hid (HSN.out w14); clear hb14 HSM hr HSN) | (refine load_midg rfl 40 _ rfl _ _ rfl (Pk.Pc.mk ⟨true, 1, 3, 1, []⟩ none 0).cells _ ha Try.underlying40 rfl (Pk.pcinfo _) ?_; (try simp only [Act.put, List.setIfInBounds_toArray, List.set_cons_zero, List.set_cons_succ])) | (go_at_call 24; refine HSN2.out.mono ?_; rintro e w15 ⟨rfl, hb15⟩; have HB15 := Lib.hid (HB14.out.trans (hb15.mono HB14.out.size)); have HPK2 := Lib.hid (HPK.out w15 HB15.out); clear hb15 HSN2 hcb ha HPK) | (go_at_call 17; refine HPK2.out.mono ?_; rintro e w16 ⟨A16, c16, rfl, hb16⟩; have HB16 := Lib.hid (HB15.out.trans (hb16.mono HB15.out.size)); have HRM2 := Lib.hid (HRM.out w16 HB16.out); clear hb16 HPK2 HRM) | (go_at_call 19; refine HRM2.out.mono ?_; rintro e w17 ⟨rfl, hb17⟩; have HB17 := Lib.hid (HB16.out.trans (hb17.mono HB16.out.size)); have hk3 := HKC.out w17 HB17.out; have HOW2 := Lib.hid (HOW.out w17 HB17.out); clear hb17 HRM2 HOW) | (go_at_call 15; refine HOW2.out.mono ?_; rintro e w18 ⟨rfl, rfl⟩; clear HOW2))
  go_ret
  exact ⟨rfl, HEND.out.trans (HB17.out.mono HEND.out.size)⟩
end Ls
end Go.Proofs.Ytifoheodcbjapaa

/-
WireBack's second closure: each part is read.
-/
import Derived.Test.YtnoeogbihjpacaaBk1
namespace Go.Proofs.Ytnoeogbihjpacaa
open Go.RowKit
variable {L : Nat}

/-- How a part's read ends. -/
def GotEnd (L s : Nat) (W : World) (r : Except Int (List Nat × List Nat)) (e : Ending) (W' : World) : Prop :=
  Off s W W' ∧ match r with
  | .ok (_, u) => (∃ v, e = .returned v) ∧ RdB L W' s u
  | .error x => e = .panicked [{ v := flt s, recovered := false }] ∧ Met' W' s x

set_option maxRecDepth 20000 in
set_option maxHeartbeats 4000000 in
theorem got_any (k s : Nat) (p : PartR) (t : List Nat) (W : World) (hL : L ≤ W.heap.size) (hr : Rdr W k s) (h : RdB L W s t) (hby : ∀ x ∈ t, x < 256) (hlen : t.length ≤ 100000000) (hmo : p.mo ≤ 9223372036854775807) (h5 : p.k ≠ 5) (h6 : p.k ≠ 6) :
    Calls Try.prog 30 #[.pointer (some ⟨k, 0, none⟩), .agg p.cells.toArray] W fun e W' => GotEnd L s W (partP p t) e W' := by
  unfold PartR.cells
  have b0 : Below W.heap.size W (W.alloc (.cells (partC p.k p.i p.mo p.n (.slice p.A p.m p.c) p.f).toArray 32)) := (Below.refl _ W).alloc (Nat.le_refl _) _
  have hBk := Blk.new W 32 (partC p.k p.i p.mo p.n (.slice p.A p.m p.c) p.f).toArray
  have c0 := hBk.cell 0
  rw [List.getElem?_toArray, partC_0] at c0
  have c2 := hBk.cell 2
  rw [List.getElem?_toArray, partC_2] at c2
  have HRD := Lib.hid (hr.below b0)
  have HR := Lib.hid (h.below b0)
  have HO0 := Lib.hid (Off.ofBelow (s := s) b0)
  have HLS := Lib.hid (Nat.le_trans hL b0.size)
  have HBY := Lib.hid hby
  have HLEN := Lib.hid hlen
  have HMO := Lib.hid hmo
  clear hL hr h hby hlen hmo b0 hBk
  have hkk : p.k = 0 ∨ p.k = 1 ∨ p.k = 2 ∨ p.k = 3 ∨ p.k = 4 ∨ (p.k ≠ 0 ∧ p.k ≠ 1 ∧ p.k ≠ 2 ∧ p.k ≠ 3 ∧ p.k ≠ 4) := by omega
  rcases hkk with h0 | h0 | h0 | h0 | h0 | ⟨h0, h1, h2, h3, h4⟩
  · have HPP := Lib.hid (show ∀ bs, partP p bs = bindP (numP true 0) (fun v t => .ok (enc v, t)) bs from fun bs => by unfold partP; rw [if_pos h0])
    have HX := Lib.hid (rnum_any k s t _ HRD.out HR.out)
    rw [h0] at c0 c2 HX HO0 ⊢
    clear h0 h5 h6
    obtain ⟨r, hr⟩ : ∃ r, r = numP true 0 t := ⟨_, rfl⟩
    have HRN := Lib.hid hr.symm
    rw [← hr] at HX
    clear hr
    go_enter Try.func30, Try.ntmps30
    match r with
    | .error x =>
      go_wp2_with (go_at_call 20; refine HX.out.mono ?_; rintro e w2 ⟨hO, rfl, hM⟩)
      exact ⟨rfl, HO0.out.trans hO, by rw [HPP.out, bindP_err HRN.out]; exact ⟨rfl, hM⟩⟩
    | .ok (v, u) =>
      have HV := Lib.hid (numP_lt t true 0 v u HRN.out)
      go_wp2_with (first | (go_at_call 20; refine HX.out.mono ?_; rintro e w2 ⟨hO, rfl, hB⟩; have HO := Lib.hid (HO0.out.trans hO); have HB := Lib.hid hB; clear hO hB) | (go_at_call 62; refine (rfnum_any v w2 HV.out).mono ?_; rintro e w3 ⟨v3, rfl, hM3⟩; have HM3 := Lib.hid hM3; clear hM3))
      go_ret
      exact ⟨HO.out.trans (Off.ofBelow HM3.out.2), by rw [HPP.out, bindP_ok HRN.out]; exact ⟨⟨_, rfl⟩, HB.out.below HM3.out.2⟩⟩
  · have HPP := Lib.hid (show ∀ bs, partP p bs = bindP intP (fun i t => .ok (enc (zig i), t)) bs from fun bs => by unfold partP; rw [if_neg (by omega), if_pos h0])
    have HX := Lib.hid (rint_any k s t _ HRD.out HR.out)
    rw [h0] at c0 c2 HX HO0 ⊢
    clear h0 h5 h6
    obtain ⟨r, hr⟩ : ∃ r, r = intP t := ⟨_, rfl⟩
    have HRN := Lib.hid hr.symm
    rw [← hr] at HX
    clear hr
    go_enter Try.func30, Try.ntmps30
    match r with
    | .error x =>
      go_wp2_with (go_at_call 22; refine HX.out.mono ?_; rintro e w2 ⟨hO, rfl, hM⟩)
      exact ⟨rfl, HO0.out.trans hO, by rw [HPP.out, bindP_err HRN.out]; exact ⟨rfl, hM⟩⟩
    | .ok (v, u) =>
      have HV := Lib.hid (int_one HBY.out HRN.out).2
      go_wp2_with (first | (go_at_call 22; refine HX.out.mono ?_; rintro e w2 ⟨hO, rfl, hB⟩; have HO := Lib.hid (HO0.out.trans hO); have HB := Lib.hid hB; clear hO hB) | (go_at_call 63; refine (rfint_any v w2 (by have := HV.out; omega) (by have := HV.out; omega)).mono ?_; rintro e w3 ⟨v3, rfl, hM3⟩; have HM3 := Lib.hid hM3; clear hM3))
      go_ret
      exact ⟨HO.out.trans (Off.ofBelow HM3.out.2), by rw [HPP.out, bindP_ok HRN.out]; exact ⟨⟨_, rfl⟩, HB.out.below HM3.out.2⟩⟩
  · have HPP := Lib.hid (show ∀ bs, partP p bs = bindP (textP p.mo) (fun x t => .ok (enc x.length ++ x, t)) bs from fun bs => by unfold partP; rw [if_neg (by omega), if_neg (by omega), if_pos h0])
    have HX := Lib.hid (rtext_any k s t p.mo _ HRD.out HR.out HMO.out (by have := HLEN.out; omega))
    rw [h0] at c0 c2 HX HO0 ⊢
    clear h0 h5 h6
    obtain ⟨r, hr⟩ : ∃ r, r = textP p.mo t := ⟨_, rfl⟩
    have HRN := Lib.hid hr.symm
    rw [← hr] at HX
    clear hr
    go_enter Try.func30, Try.ntmps30
    match r with
    | .error x =>
      go_wp2_with (go_at_call 24; refine HX.out.mono ?_; rintro e w2 ⟨hO, rfl, hM⟩)
      exact ⟨rfl, HO0.out.trans hO, by rw [HPP.out, bindP_err HRN.out]; exact ⟨rfl, hM⟩⟩
    | .ok (v, u) =>
      go_wp2_with (go_at_call 24; refine HX.out.mono ?_; rintro e w2 ⟨hO, ⟨v2, rfl, hown⟩, hB⟩; have HO := Lib.hid (HO0.out.trans hO); have HB := Lib.hid hB; clear hO hB hown)
      go_ret
      exact ⟨HO.out, by rw [HPP.out, bindP_ok HRN.out]; exact ⟨⟨_, rfl⟩, HB.out⟩⟩
  · have HPP := Lib.hid (show ∀ bs, partP p bs = bindP floatP (fun b t => .ok (encF b, t)) bs from fun bs => by unfold partP; rw [if_neg (by omega), if_neg (by omega), if_neg (by omega), if_pos h0])
    have HX := Lib.hid (rfloat_any k s t _ HRD.out HR.out HBY.out)
    rw [h0] at c0 c2 HX HO0 ⊢
    clear h0 h5 h6
    obtain ⟨r, hr⟩ : ∃ r, r = floatP t := ⟨_, rfl⟩
    have HRN := Lib.hid hr.symm
    rw [← hr] at HX
    clear hr
    go_enter Try.func30, Try.ntmps30
    match r with
    | .error x =>
      go_wp2_with (go_at_call 26; refine HX.out.mono ?_; rintro e w2 ⟨hO, rfl, hM⟩)
      exact ⟨rfl, HO0.out.trans hO, by rw [HPP.out, bindP_err HRN.out]; exact ⟨rfl, hM⟩⟩
    | .ok (v, u) =>
      have HV := Lib.hid (float_one HBY.out HRN.out).2
      go_wp2_with (first | (go_at_call 26; refine HX.out.mono ?_; rintro e w2 ⟨hO, rfl, hB⟩; have HO := Lib.hid (HO0.out.trans hO); have HB := Lib.hid hB; clear hO hB) | (go_at_call 66; refine (rffloat_any v w2 HV.out).mono ?_; rintro e w3 ⟨v3, rfl, hM3⟩; have HM3 := Lib.hid hM3; clear hM3))
      go_ret
      exact ⟨HO.out.trans (Off.ofBelow HM3.out.2), by rw [HPP.out, bindP_ok HRN.out]; exact ⟨⟨_, rfl⟩, HB.out.below HM3.out.2⟩⟩
  · have HPP := Lib.hid (show ∀ bs, partP p bs = bindP vectorP (fun l t => .ok (encV (lv l), t)) bs from fun bs => by unfold partP; rw [if_neg (by omega), if_neg (by omega), if_neg (by omega), if_neg (by omega), if_pos h0])
    have HX := Lib.hid (rvector_any k s t _ HLS.out HRD.out HR.out)
    rw [h0] at c0 c2 HX HO0 ⊢
    clear h0 h5 h6
    obtain ⟨r, hr⟩ : ∃ r, r = vectorP t := ⟨_, rfl⟩
    have HRN := Lib.hid hr.symm
    rw [← hr] at HX
    clear hr
    go_enter Try.func30, Try.ntmps30
    match r with
    | .error x =>
      go_wp2_with (go_at_call 28; refine HX.out.mono ?_; rintro e w2 ⟨hO, rfl, hM⟩)
      exact ⟨rfl, HO0.out.trans hO, by rw [HPP.out, bindP_err HRN.out]; exact ⟨rfl, hM⟩⟩
    | .ok (v, u) =>
      have HV := Lib.hid (vector_one HBY.out HRN.out).2.2.1
      go_wp2_with (first | (go_at_call 28; refine HX.out.mono ?_; rintro e w2 ⟨hO, rfl, hB⟩; have HO := Lib.hid (HO0.out.trans hO); have HB := Lib.hid hB; clear hO hB) | (go_at_call 67; refine (rfvector_any (lv v) HV.out w2).mono ?_; rintro e w3 ⟨v3, rfl, hM3⟩; have HM3 := Lib.hid hM3; clear hM3))
      go_ret
      exact ⟨HO.out.trans (Off.ofBelow HM3.out.2), by rw [HPP.out, bindP_ok HRN.out]; exact ⟨⟨_, rfl⟩, HB.out.below HM3.out.2⟩⟩
  · have HPP := Lib.hid (show ∀ bs, partP p bs = .ok ([], bs) from fun bs => by unfold partP; rw [if_neg h0, if_neg h1, if_neg h2, if_neg h3, if_neg h4])
    have e0 : (p.k == 0) = false := by simpa using h0
    have e1 : (p.k == 1) = false := by simpa using h1
    have e2 : (p.k == 2) = false := by simpa using h2
    have e3 : (p.k == 3) = false := by simpa using h3
    have e4 : (p.k == 4) = false := by simpa using h4
    have e5 : (p.k == 5) = false := by simpa using h5
    have e6 : (p.k == 6) = false := by simpa using h6
    clear h0 h1 h2 h3 h4 h5 h6
    go_enter Try.func30, Try.ntmps30
    go_wp2_with fail
    go_ret
    exact ⟨HO0.out, by rw [HPP.out]; exact ⟨⟨_, rfl⟩, HR.out⟩⟩

/-- What the second closure knows as it begins. -/
structure GtBeg (L s k c1 : Nat) (A : Option Addr) (c : Nat) (l : List PartR) (bs : List Nat) (W : World) : Prop where
  rdr : Rdr W k s
  L1 : L ≤ W.heap.size
  c1s : c1 ≠ s
  cell1 : W.cell? ⟨c1, 0, none⟩ = some (.slice A l.length c)
  row : l = [] ∨ ∃ b o, A = some ⟨b, o, none⟩ ∧ b ≠ s ∧ b < W.heap.size ∧ ∀ i, (hi : i < l.length) → W.rangeAt b (o + i * 17) (l[i].cells)
  len : l.length ≤ 40
  mo : ∀ p ∈ l, p.mo ≤ 9223372036854775807 ∧ p.k ≠ 5 ∧ p.k ≠ 6
  bslen : bs.length ≤ 100000000
  byte : ∀ x ∈ bs, x < 256
def GtAt (L s : Nat) (l : List PartR) (bs : List Nat) (W wr : World) (j : Nat) : Prop :=
  ∃ acc t, partsP (l.drop j) acc t = partsP l [] bs ∧ RdB L wr s t ∧ Off s W wr ∧ acc ++ t = bs
def GtEnd (L s : Nat) (W : World) (r : Except Int (List Nat × List Nat)) (e : Ending) (W' : World) : Prop :=
  Off s W W' ∧ match r with
  | .ok (_, t) => e = .returned (.tuple #[]) ∧ RdB L W' s t
  | .error x => e = .panicked [{ v := flt s, recovered := false }] ∧ Met' W' s x
theorem Off.range {s b o : Nat} {W W' : World} {cs : List Value} (h : Off s W W') (hb : b < W.heap.size) (hs : b ≠ s) (hr : W.rangeAt b o cs) : W'.rangeAt b o cs := fun j v hv => by
  rw [h.cell (p := ⟨b, o + j, none⟩) hb hs]; exact hr j v hv

set_option maxRecDepth 100000 in
set_option maxHeartbeats 8000000 in
theorem bk2_any (s k c1 : Nat) (A : Option Addr) (c : Nat) (l : List PartR) (bs : List Nat) (W : World) (hb : GtBeg L s k c1 A c l bs W) (hR : RdB L W s bs) :
    Calls Try.prog 29 #[.pointer (some ⟨k, 0, none⟩), .pointer (some ⟨c1, 0, none⟩)] W fun e W' => GtEnd L s W (partsP l [] bs) e W' := by
  have HB := Lib.hid hb
  have HRR := Lib.hid hR
  have hl40 := hb.len
  clear hb hR
  go_enter Try.func29, Try.ntmps29
  go_wp2_with fail
  go_loopw [3] (fun i wr => ∃ j : Nat, j ≤ l.length ∧ i = .int .i64 j ∧ GtAt L s l bs W wr j) (fun i _ => l.length - (intOf i).toNat)
  case atStart => exact ⟨0, Nat.zero_le _, rfl, [], bs, rfl, HRR.out, Off.refl _ _, rfl⟩
  case round =>
    clear HRR
    obtain ⟨j, hj, rfl, hat⟩ := hrel
    obtain ⟨acc, t, hP, hR, hO, hacc⟩ := hat
    have HP := Lib.hid hP
    have HR := Lib.hid hR
    have HO := Lib.hid hO
    have HEQ := Lib.hid hacc
    have HT := Lib.hid (show ∀ x ∈ t, x < 256 from fun x hx => HB.out.byte x (by rw [← hacc]; exact List.mem_append_right _ hx))
    have HLEN := Lib.hid (show acc.length + t.length ≤ 100000000 by rw [← List.length_append, hacc]; exact HB.out.bslen)
    have HRD := Lib.hid (HB.out.rdr.off hO)
    have q1 := (hO.cell (p := ⟨c1, 0, none⟩) (World.block_lt_of_cell? W _ HB.out.cell1) HB.out.c1s).trans HB.out.cell1
    clear hP hR hO hacc
    by_cases hlt : j < l.length
    · obtain ⟨p, hp⟩ : ∃ p, l[j]? = some p := ⟨_, List.getElem?_eq_getElem hlt⟩
      have HDP := Lib.hid (show l.drop j = p :: l.drop (j + 1) by rw [List.drop_eq_getElem_cons hlt, (List.getElem?_eq_some_iff.1 hp).2])
      obtain ⟨b, o, rfl, hbs, hblt, hr⟩ := HB.out.row.resolve_left (by intro e; rw [e] at hlt; simp at hlt)
      have hrj := HO.out.range hblt hbs (hr j hlt)
      rw [(List.getElem?_eq_some_iff.1 hp).2] at hrj
      have HPM := Lib.hid (HB.out.mo p (List.mem_of_getElem? hp))
      rw [HDP.out] at HP
      have HG := Lib.hid (got_any k s p t wr (Nat.le_trans HB.out.L1 HO.out.size) HRD.out HR.out HT.out (by have := HLEN.out; omega) HPM.out.1 HPM.out.2.1 HPM.out.2.2)
      clear hr hp hbs hblt
      obtain ⟨r, hr⟩ : ∃ r, r = partP p t := ⟨_, rfl⟩
      have HRN := Lib.hid hr.symm
      rw [← hr] at HG
      clear hr
      match r with
      | .error x =>
        go_wp2_with (first | (refine wpList_load_mid rfl 32 _ rfl _ _ rfl (p).cells _ ?_ Try.underlying32 rfl (pinfo _) ?_; (focus assumption)) | (go_at_call 30; refine HG.out.mono ?_; rintro e w2 ⟨hO2, rfl, hM⟩))
        exact ⟨rfl, HO.out.trans hO2, by rw [← HP.out, partsP_err HRN.out]; exact ⟨rfl, hM⟩⟩
      | .ok (X, u) =>
        go_wp2_with (first | (refine wpList_load_mid rfl 32 _ rfl _ _ rfl (p).cells _ ?_ Try.underlying32 rfl (pinfo _) ?_; (focus assumption)) | (go_at_call 30; refine HG.out.mono ?_; rintro e w2 ⟨hO2, ⟨v2, rfl⟩, hB2⟩; have HO2 := Lib.hid (HO.out.trans hO2); have HB2 := Lib.hid hB2; clear hO2 hB2 hrj))
        go_roundw
        case rel => exact ⟨j + 1, by omega, by go_num, _, _, (partsP_ok HRN.out).symm.trans HP.out, HB2.out, HO2.out, by rw [← HEQ.out, part_one HT.out HRN.out, List.append_assoc]⟩
        case measure => simp [intOf]; omega
    · obtain rfl : j = l.length := by omega
      have HE := Lib.hid (show partsP l [] bs = .ok (acc, t) by rw [← HP.out, List.drop_of_length_le (Nat.le_refl _)]; rfl)
      clear hlt
      go_wp2_with fail
      exact ⟨rfl, .tuple #[], by simp [results, Try.results29, go_sem], HO.out, by rw [HE.out]; exact ⟨rfl, HR.out⟩⟩
end Go.Proofs.Ytnoeogbihjpacaa

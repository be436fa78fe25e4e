/-
WireBack's first closure: each part is read, and written again.
-/
import Derived.Test.YtnoeogbihjpacaaMix
namespace Go.Proofs.Ytnoeogbihjpacaa
open Go.RowKit
variable {L : Nat}

/-- Behind j parts. -/
def BkAt (L s g B : Nat) (l : List PartR) (bs : List Nat) (W wr : World) (j : Nat) : Prop :=
  ∃ acc t, partsP (l.drop j) acc t = partsP l [] bs ∧ RdB L wr s t ∧ Wtr wr B g acc ∧ Mix s g W wr ∧ acc ++ t = bs
/-- How the closure ends. -/
def BkEnd (L s g B : Nat) (W : World) (r : Except Int (List Nat × List Nat)) (e : Ending) (W' : World) : Prop :=
  Mix s g W W' ∧ match r with
  | .ok (acc, t) => e = .returned (.tuple #[]) ∧ RdB L W' s t ∧ Wtr W' B g acc
  | .error x => e = .panicked [{ v := flt s, recovered := false }] ∧ Met' W' s x

/-- What the closure knows as it begins. -/
structure BkBeg (L s k g B c1 c2 : Nat) (A : Option Addr) (c : Nat) (l : List PartR) (bs : List Nat) (W : World) : Prop where
  apart : Apart L s k g B W
  rdr : Rdr W k s
  f1 : Free s g c1 W
  f2 : Free s g c2 W
  cell1 : W.cell? ⟨c1, 0, none⟩ = some (.slice A l.length c)
  cell2 : W.cell? ⟨c2, 0, none⟩ = some (.pointer (some ⟨g, 0, none⟩))
  row : l = [] ∨ ∃ b o, A = some ⟨b, o, none⟩ ∧ Free s g b W ∧ ∀ i, (hi : i < l.length) → W.rangeAt b (o + i * 17) (l[i].cells)
  len : l.length ≤ 40
  mo : ∀ p ∈ l, p.mo ≤ 9223372036854775807
  bslen : bs.length ≤ 100000000
  byte : ∀ x ∈ bs, x < 256

/-- What is read of a part is what is written of it. -/
theorem part_one {p : PartR} {bs X u : List Nat} (hb : ∀ x ∈ bs, x < 256) (h : partP p bs = .ok (X, u)) : bs = X ++ u := by
  have bind : ∀ {α : Type} {P : List Nat → Except Int (α × List Nat)} {F : α → List Nat} {X u : List Nat}, bindP P (fun v t => .ok (F v, t)) bs = .ok (X, u) → ∃ v, P bs = .ok (v, u) ∧ X = F v := by
    intro α P F X u h
    unfold bindP at h
    split at h
    · rename_i v t hp
      cases h
      exact ⟨v, hp, rfl⟩
    · cases h
  unfold partP at h
  split at h
  · obtain ⟨v, h1, rfl⟩ := bind h; exact num_one hb h1
  · split at h
    · obtain ⟨v, h1, rfl⟩ := bind h; exact (int_one hb h1).1
    · split at h
      · obtain ⟨v, h1, rfl⟩ := bind h; exact text_one hb h1
      · split at h
        · obtain ⟨v, h1, rfl⟩ := bind h; exact (float_one hb h1).1
        · split at h
          · obtain ⟨v, h1, rfl⟩ := bind h; exact (vector_one hb h1).1
          · cases h; rfl

set_option maxRecDepth 100000 in
set_option maxHeartbeats 8000000 in
theorem bk1_any (s k g B c1 c2 : Nat) (A : Option Addr) (c : Nat) (l : List PartR) (bs : List Nat) (W : World) (hb : BkBeg L s k g B c1 c2 A c l bs W) (hR : RdB L W s bs) (hW : Wtr W B g []) :
    Calls Try.prog 18 #[.pointer (some ⟨k, 0, none⟩), .pointer (some ⟨c1, 0, none⟩), .pointer (some ⟨c2, 0, none⟩)] W fun e W' => BkEnd L s g B W (partsP l [] bs) e W' := by
  have HB := Lib.hid hb
  have HRR := Lib.hid hR
  have HWW := Lib.hid hW
  have HL40 := Lib.hid hb.len
  clear hb hR hW
  go_enter Try.func18, Try.ntmps18
  go_wp2_with fail
  go_loopw [4] (fun i wr => ∃ j : Nat, j ≤ l.length ∧ i = .int .i64 j ∧ BkAt L s g B l bs W wr j) (fun i _ => l.length - (intOf i).toNat)
  case atStart => exact ⟨0, Nat.zero_le _, rfl, [], bs, rfl, HRR.out, HWW.out, Mix.refl _ _ _, rfl⟩
  case round =>
    clear HRR HWW
    obtain ⟨j, hj, rfl, hat⟩ := hrel
    have hl40 := HL40.out
    obtain ⟨acc, t, hP, hR, hW, hM, hacc⟩ := hat
    have HP := Lib.hid hP
    have HR := Lib.hid hR
    have HW := Lib.hid hW
    have HM := Lib.hid hM
    have HEQ := Lib.hid hacc
    have HT := Lib.hid (show ∀ x ∈ t, x < 256 from fun x hx => HB.out.byte x (by rw [← hacc]; exact List.mem_append_right _ hx))
    have HLEN := Lib.hid (show acc.length + t.length ≤ 100000000 by rw [← List.length_append, hacc]; exact HB.out.bslen)
    have HAP := Lib.hid (HB.out.apart.next hM)
    have HRD := Lib.hid (HB.out.rdr.same ((show Free s g k W from ⟨HB.out.apart.k1, HB.out.apart.ks, HB.out.apart.kg, HB.out.apart.kr⟩).same hM))
    have q1 := (HB.out.f1.cell (i := 0) hM).trans HB.out.cell1
    have q2 := (HB.out.f2.cell (i := 0) hM).trans HB.out.cell2
    have HF2 := Lib.hid (HB.out.f2.next hM)
    have HF1 := Lib.hid (HB.out.f1.next hM)
    clear hP hR hW hM hacc
    by_cases hlt : j < l.length
    · obtain ⟨p, hp⟩ : ∃ p, l[j]? = some p := ⟨_, List.getElem?_eq_getElem hlt⟩
      have HDP := Lib.hid (show l.drop j = p :: l.drop (j + 1) by rw [List.drop_eq_getElem_cons hlt, (List.getElem?_eq_some_iff.1 hp).2])
      obtain ⟨b, o, rfl, hf, hr⟩ := HB.out.row.resolve_left (by intro e; rw [e] at hlt; simp at hlt)
      have hrj := hf.range HM.out (hr j hlt)
      rw [(List.getElem?_eq_some_iff.1 hp).2] at hrj
      have HRJ := Lib.hid hrj
      have HFB := Lib.hid (hf.next HM.out)
      have d0 := hrj 0 _ partC_0
      have d2 := hrj 2 _ partC_2
      rw [Nat.add_zero] at d0
      rw [HDP.out] at HP
      have HMO := Lib.hid (HB.out.mo p (List.mem_of_getElem? hp))
      clear hr hf hp hrj
      have hkk : p.k = 0 ∨ p.k = 1 ∨ p.k = 2 ∨ p.k = 3 ∨ p.k = 4 ∨ (p.k ≠ 0 ∧ p.k ≠ 1 ∧ p.k ≠ 2 ∧ p.k ≠ 3 ∧ p.k ≠ 4) := by omega
      rcases hkk with h0 | h0 | h0 | h0 | h0 | ⟨h0, h1, h2, h3, h4⟩
      · rw [h0] at d0
        have HPP := Lib.hid (show ∀ bs, partP p bs = bindP (numP true 0) (fun v t => .ok (enc v, t)) bs from fun bs => by unfold partP; rw [if_pos h0])
        have HX := Lib.hid (rnum_any k s t wr.drew (show Rdr wr.drew k s from HRD.out) HR.out.drew)
        clear h0
        obtain ⟨r, hr⟩ : ∃ r, r = numP true 0 t := ⟨_, rfl⟩
        have HRN := Lib.hid hr.symm
        rw [← hr] at HX
        clear hr
        go_wp2_with fail
        match r with
        | .error x =>
          refine wp_region_tree (S := (fun W' => W'.cell? ⟨c2, 0, none⟩ = some (.pointer (some ⟨g, 0, none⟩)))) (.take 0 (.take 1 (.one 2 (.one 3 .nil)))) 9999 (by kernel_rfl) (by kernel_rfl) (by kernel_rfl) (by kernel_rfl) (by kernel_rfl) (fun _ _ d _ _ h => by cases d <;> exact h) ?_ (fun hHeld => ?_); (focus (exact q2)); simp only [Tree.map, List.getElem?_toArray, List.getElem?_cons_zero, List.getElem?_cons_succ]
          (repeat (first | (refine wpTree.take (v := undef) (Or.inr ⟨by rfl, rfl⟩) ?_; simp only [Act.put, List.setIfInBounds_toArray, List.set_cons_zero, List.set_cons_succ]) | (refine wpTree.take (v := ?_) (Or.inl ⟨by rfl, ?_⟩) ?_; rotate_left; (focus (intro _ hS; (try dsimp only at hS); go_split_ands; (try subst hS); go_simp; (try (with_reducible rfl)); done)); simp only [Act.put, List.setIfInBounds_toArray, List.set_cons_zero, List.set_cons_succ])))
          refine wpTree.one (fun K hK => ?_)
          go_simp
          go_at_call 20
          refine HX.out.mono ?_
          rintro e w2 ⟨hO, rfl, hMt⟩
          exact ⟨rfl, HM.out.trans (Mix.ofOff hO.undrew HAP.out.g1 (Ne.symm HAP.out.sg)), by rw [← HP.out, partsP_err ((HPP.out t).trans (bindP_err HRN.out))]; exact ⟨rfl, hMt⟩⟩
        | .ok (v, u) =>
          have HV := Lib.hid (numP_lt t true 0 v u HRN.out)
          refine wp_region_tree (S := (fun W' => W'.cell? ⟨c2, 0, none⟩ = some (.pointer (some ⟨g, 0, none⟩)))) (.take 0 (.take 1 (.one 2 (.one 3 .nil)))) 9999 (by kernel_rfl) (by kernel_rfl) (by kernel_rfl) (by kernel_rfl) (by kernel_rfl) (fun _ _ d _ _ h => by cases d <;> exact h) ?_ (fun hHeld => ?_); (focus (exact q2)); simp only [Tree.map, List.getElem?_toArray, List.getElem?_cons_zero, List.getElem?_cons_succ]
          (repeat (first | (refine wpTree.take (v := undef) (Or.inr ⟨by rfl, rfl⟩) ?_; simp only [Act.put, List.setIfInBounds_toArray, List.set_cons_zero, List.set_cons_succ]) | (refine wpTree.take (v := ?_) (Or.inl ⟨by rfl, ?_⟩) ?_; rotate_left; (focus (intro _ hS; (try dsimp only at hS); go_split_ands; (try subst hS); go_simp; (try (with_reducible rfl)); done)); simp only [Act.put, List.setIfInBounds_toArray, List.set_cons_zero, List.set_cons_succ])))
          refine wpTree.one (fun K hK => ?_)
          go_simp
          go_at_call 20
          refine HX.out.mono ?_
          rintro e w2 ⟨hO, rfl, hB2⟩
          have hO' := hO.undrew
          have hM2 : Mix s g wr w2 := Mix.ofOff hO' HAP.out.g1 (Ne.symm HAP.out.sg)
          have hW2 := HW.out.off hO' (Ne.symm HAP.out.sg) HAP.out.sr
          have hA2 := HAP.out.next hM2
          refine hK.out _ _ ((HF2.out.cell hM2).trans q2) (fun _ => ?_)
          clear hK K
          refine wpTree.one (fun K hK => ?_)
          go_simp
          go_at_call 19
          refine (wnum_any B g v acc w2 hW2 HV.out (by have := HLEN.out; omega)).mono ?_
          rintro e w3 ⟨rfl, hW3, hO3⟩
          have hM3 := hM2.trans (Mix.ofWrote (s := s) hO3)
          refine hK.out _ _ ((HF2.out.cell hM3).trans q2) (fun _ => ?_)
          clear hK K
          (repeat (first | (refine wpTree.take (v := undef) (Or.inr ⟨by rfl, rfl⟩) ?_; simp only [Act.put, List.setIfInBounds_toArray, List.set_cons_zero, List.set_cons_succ]) | (refine wpTree.take (v := ?_) (Or.inl ⟨by rfl, ?_⟩) ?_; rotate_left; (focus (intro _ hS; (try dsimp only at hS); go_split_ands; (try subst hS); go_simp; (try (with_reducible rfl)); done)); simp only [Act.put, List.setIfInBounds_toArray, List.set_cons_zero, List.set_cons_succ])))
          refine wpTree.done ?_
          clear hHeld
          have HM3 := Lib.hid hM3
          have HB3 := Lib.hid (hB2.wrote hO3 hA2.sg hA2.sr hA2.LB)
          have HW3 := Lib.hid hW3
          clear hO hO' hM2 hW2 hA2 hB2 hW3 hO3 hM3
          go_wp2_with fail
          go_roundw
          case rel =>
            have hpp := (HPP.out t).trans (bindP_ok HRN.out)
            exact ⟨j + 1, by omega, by go_num, _, _, (partsP_ok hpp).symm.trans HP.out, HB3.out, HW3.out, HM.out.trans HM3.out, by rw [← HEQ.out, part_one HT.out hpp, List.append_assoc]⟩
          case measure => simp [intOf]; omega
      · rw [h0] at d0
        have HPP := Lib.hid (show ∀ bs, partP p bs = bindP intP (fun i t => .ok (enc (zig i), t)) bs from fun bs => by unfold partP; rw [if_neg (by omega), if_pos h0])
        have HX := Lib.hid (rint_any k s t wr.drew (show Rdr wr.drew k s from HRD.out) HR.out.drew)
        clear h0
        obtain ⟨r, hr⟩ : ∃ r, r = intP t := ⟨_, rfl⟩
        have HRN := Lib.hid hr.symm
        rw [← hr] at HX
        clear hr
        go_wp2_with fail
        match r with
        | .error x =>
          refine wp_region_tree (S := (fun W' => W'.cell? ⟨c2, 0, none⟩ = some (.pointer (some ⟨g, 0, none⟩)))) (.take 0 (.take 1 (.one 2 (.one 3 .nil)))) 9999 (by kernel_rfl) (by kernel_rfl) (by kernel_rfl) (by kernel_rfl) (by kernel_rfl) (fun _ _ d _ _ h => by cases d <;> exact h) ?_ (fun hHeld => ?_); (focus (exact q2)); simp only [Tree.map, List.getElem?_toArray, List.getElem?_cons_zero, List.getElem?_cons_succ]
          (repeat (first | (refine wpTree.take (v := undef) (Or.inr ⟨by rfl, rfl⟩) ?_; simp only [Act.put, List.setIfInBounds_toArray, List.set_cons_zero, List.set_cons_succ]) | (refine wpTree.take (v := ?_) (Or.inl ⟨by rfl, ?_⟩) ?_; rotate_left; (focus (intro _ hS; (try dsimp only at hS); go_split_ands; (try subst hS); go_simp; (try (with_reducible rfl)); done)); simp only [Act.put, List.setIfInBounds_toArray, List.set_cons_zero, List.set_cons_succ])))
          refine wpTree.one (fun K hK => ?_)
          go_simp
          go_at_call 22
          refine HX.out.mono ?_
          rintro e w2 ⟨hO, rfl, hMt⟩
          exact ⟨rfl, HM.out.trans (Mix.ofOff hO.undrew HAP.out.g1 (Ne.symm HAP.out.sg)), by rw [← HP.out, partsP_err ((HPP.out t).trans (bindP_err HRN.out))]; exact ⟨rfl, hMt⟩⟩
        | .ok (v, u) =>
          have HV := Lib.hid (int_one HT.out HRN.out).2
          refine wp_region_tree (S := (fun W' => W'.cell? ⟨c2, 0, none⟩ = some (.pointer (some ⟨g, 0, none⟩)))) (.take 0 (.take 1 (.one 2 (.one 3 .nil)))) 9999 (by kernel_rfl) (by kernel_rfl) (by kernel_rfl) (by kernel_rfl) (by kernel_rfl) (fun _ _ d _ _ h => by cases d <;> exact h) ?_ (fun hHeld => ?_); (focus (exact q2)); simp only [Tree.map, List.getElem?_toArray, List.getElem?_cons_zero, List.getElem?_cons_succ]
          (repeat (first | (refine wpTree.take (v := undef) (Or.inr ⟨by rfl, rfl⟩) ?_; simp only [Act.put, List.setIfInBounds_toArray, List.set_cons_zero, List.set_cons_succ]) | (refine wpTree.take (v := ?_) (Or.inl ⟨by rfl, ?_⟩) ?_; rotate_left; (focus (intro _ hS; (try dsimp only at hS); go_split_ands; (try subst hS); go_simp; (try (with_reducible rfl)); done)); simp only [Act.put, List.setIfInBounds_toArray, List.set_cons_zero, List.set_cons_succ])))
          refine wpTree.one (fun K hK => ?_)
          go_simp
          go_at_call 22
          refine HX.out.mono ?_
          rintro e w2 ⟨hO, rfl, hB2⟩
          have hO' := hO.undrew
          have hM2 : Mix s g wr w2 := Mix.ofOff hO' HAP.out.g1 (Ne.symm HAP.out.sg)
          have hW2 := HW.out.off hO' (Ne.symm HAP.out.sg) HAP.out.sr
          have hA2 := HAP.out.next hM2
          refine hK.out _ _ ((HF2.out.cell hM2).trans q2) (fun _ => ?_)
          clear hK K
          refine wpTree.one (fun K hK => ?_)
          go_simp
          go_at_call 21
          refine (wint_any B g v acc w2 hW2 (by have := HV.out; omega) (by have := HV.out; omega) (by have := HLEN.out; omega)).mono ?_
          rintro e w3 ⟨rfl, hW3, hO3⟩
          have hM3 := hM2.trans (Mix.ofWrote (s := s) hO3)
          refine hK.out _ _ ((HF2.out.cell hM3).trans q2) (fun _ => ?_)
          clear hK K
          (repeat (first | (refine wpTree.take (v := undef) (Or.inr ⟨by rfl, rfl⟩) ?_; simp only [Act.put, List.setIfInBounds_toArray, List.set_cons_zero, List.set_cons_succ]) | (refine wpTree.take (v := ?_) (Or.inl ⟨by rfl, ?_⟩) ?_; rotate_left; (focus (intro _ hS; (try dsimp only at hS); go_split_ands; (try subst hS); go_simp; (try (with_reducible rfl)); done)); simp only [Act.put, List.setIfInBounds_toArray, List.set_cons_zero, List.set_cons_succ])))
          refine wpTree.done ?_
          clear hHeld
          have HM3 := Lib.hid hM3
          have HB3 := Lib.hid (hB2.wrote hO3 hA2.sg hA2.sr hA2.LB)
          have HW3 := Lib.hid hW3
          clear hO hO' hM2 hW2 hA2 hB2 hW3 hO3 hM3
          go_wp2_with fail
          go_roundw
          case rel =>
            have hpp := (HPP.out t).trans (bindP_ok HRN.out)
            exact ⟨j + 1, by omega, by go_num, _, _, (partsP_ok hpp).symm.trans HP.out, HB3.out, HW3.out, HM.out.trans HM3.out, by rw [← HEQ.out, part_one HT.out hpp, List.append_assoc]⟩
          case measure => simp [intOf]; omega
      · rw [h0] at d0
        have HPP := Lib.hid (show ∀ bs, partP p bs = bindP (textP p.mo) (fun x t => .ok (enc x.length ++ x, t)) bs from fun bs => by unfold partP; rw [if_neg (by omega), if_neg (by omega), if_pos h0])
        have HX := Lib.hid (rtext_any k s t p.mo wr.drew (show Rdr wr.drew k s from HRD.out) HR.out.drew HMO.out (by have := HLEN.out; omega))
        clear h0
        obtain ⟨r, hr⟩ : ∃ r, r = textP p.mo t := ⟨_, rfl⟩
        have HRN := Lib.hid hr.symm
        rw [← hr] at HX
        clear hr
        go_wp2_with fail
        match r with
        | .error x =>
          refine wp_region_tree (S := (fun W' => W'.cell? ⟨c2, 0, none⟩ = some (.pointer (some ⟨g, 0, none⟩)) ∧ W'.cell? ⟨c1, 0, none⟩ = some (.slice (some ⟨b, o, none⟩) l.length c) ∧ W'.cell? ⟨b, o + j * 17 + 2, none⟩ = some (.int .i64 p.mo))) (.take 0 (.take 1 (.take 2 (.take 3 (.take 4 (.take 5 (.take 6 (.one 7 (.one 8 .nil))))))))) 9999 (by kernel_rfl) (by kernel_rfl) (by kernel_rfl) (by kernel_rfl) (by kernel_rfl) (fun _ _ d _ _ h => by cases d <;> exact h) ?_ (fun hHeld => ?_); (focus (exact ⟨q2, q1, d2⟩)); simp only [Tree.map, List.getElem?_toArray, List.getElem?_cons_zero, List.getElem?_cons_succ]
          (repeat (first | (refine wpTree.take (v := undef) (Or.inr ⟨by rfl, rfl⟩) ?_; simp only [Act.put, List.setIfInBounds_toArray, List.set_cons_zero, List.set_cons_succ]) | (refine wpTree.take (v := ?_) (Or.inl ⟨by rfl, ?_⟩) ?_; rotate_left; (focus (intro _ hS; (try dsimp only at hS); go_split_ands; (try subst hS); go_simp; (try (with_reducible rfl)); done)); simp only [Act.put, List.setIfInBounds_toArray, List.set_cons_zero, List.set_cons_succ])))
          refine wpTree.one (fun K hK => ?_)
          go_simp
          go_at_call 24
          refine HX.out.mono ?_
          rintro e w2 ⟨hO, rfl, hMt⟩
          exact ⟨rfl, HM.out.trans (Mix.ofOff hO.undrew HAP.out.g1 (Ne.symm HAP.out.sg)), by rw [← HP.out, partsP_err ((HPP.out t).trans (bindP_err HRN.out))]; exact ⟨rfl, hMt⟩⟩
        | .ok (v, u) =>
          refine wp_region_tree (S := (fun W' => W'.cell? ⟨c2, 0, none⟩ = some (.pointer (some ⟨g, 0, none⟩)) ∧ W'.cell? ⟨c1, 0, none⟩ = some (.slice (some ⟨b, o, none⟩) l.length c) ∧ W'.cell? ⟨b, o + j * 17 + 2, none⟩ = some (.int .i64 p.mo))) (.take 0 (.take 1 (.take 2 (.take 3 (.take 4 (.take 5 (.take 6 (.one 7 (.one 8 .nil))))))))) 9999 (by kernel_rfl) (by kernel_rfl) (by kernel_rfl) (by kernel_rfl) (by kernel_rfl) (fun _ _ d _ _ h => by cases d <;> exact h) ?_ (fun hHeld => ?_); (focus (exact ⟨q2, q1, d2⟩)); simp only [Tree.map, List.getElem?_toArray, List.getElem?_cons_zero, List.getElem?_cons_succ]
          (repeat (first | (refine wpTree.take (v := undef) (Or.inr ⟨by rfl, rfl⟩) ?_; simp only [Act.put, List.setIfInBounds_toArray, List.set_cons_zero, List.set_cons_succ]) | (refine wpTree.take (v := ?_) (Or.inl ⟨by rfl, ?_⟩) ?_; rotate_left; (focus (intro _ hS; (try dsimp only at hS); go_split_ands; (try subst hS); go_simp; (try (with_reducible rfl)); done)); simp only [Act.put, List.setIfInBounds_toArray, List.set_cons_zero, List.set_cons_succ])))
          refine wpTree.one (fun K hK => ?_)
          go_simp
          go_at_call 24
          refine HX.out.mono ?_
          rintro e w2 ⟨hO, ⟨v2, rfl, hown⟩, hB2⟩
          have hO' := hO.undrew
          have hM2 : Mix s g wr w2 := Mix.ofOff hO' HAP.out.g1 (Ne.symm HAP.out.sg)
          have hW2 := HW.out.off hO' (Ne.symm HAP.out.sg) HAP.out.sr
          have hA2 := HAP.out.next hM2
          have hro : rowOf w2 g = rowOf wr g := rowOf_same (hO'.block g HAP.out.g1 (Ne.symm HAP.out.sg))
          have hSep : Sep w2 wr.drew.heap.size g v2 v := ⟨hown, fun k hk => by
            have h1 := (hown.lt k hk).1
            have h2 := HAP.out.g1
            refine ⟨by show k ≠ g; have : wr.heap.size ≤ k := h1; omega, fun e => ?_⟩
            rw [hro] at e
            have h3 := rowOf_lt HW.out e
            have : wr.heap.size ≤ k := h1
            omega⟩
          obtain ⟨A3, c3, rfl, hS3⟩ := src_own hown
          have hF := fun (w' : World) (hM : Mix s g wr w') => (show w'.cell? ⟨c2, 0, none⟩ = some (.pointer (some ⟨g, 0, none⟩)) ∧ w'.cell? ⟨c1, 0, none⟩ = some (.slice (some ⟨b, o, none⟩) l.length c) ∧ w'.cell? ⟨b, o + j * 17 + 2, none⟩ = some (.int .i64 p.mo) from ⟨(HF2.out.cell hM).trans q2, (HF1.out.cell hM).trans q1, (HFB.out.cell hM).trans d2⟩)
          refine hK.out _ _ (hF w2 hM2) (fun _ => ?_)
          clear hK K
          refine wpTree.one (fun K hK => ?_)
          go_simp
          go_at_call 23
          have hul : v.length ≤ 100000000 := by
            have hpp := (HPP.out t).trans (bindP_ok HRN.out)
            have h1 := part_one HT.out hpp
            have h2 := congrArg List.length h1
            simp only [List.length_append] at h2
            have h3 := HLEN.out
            omega
          refine (wtext_any B g v.length c3 A3 acc v w2 hW2 rfl (by have := HLEN.out; omega) (fun W' hO => by
            obtain ⟨A', c', he, hS'⟩ := src_own (hSep.wrote hO).1
            simp only [Value.slice.injEq] at he
            rw [he.1]; exact hS')).mono ?_
          rintro e w3 ⟨rfl, hW3, hO3⟩
          have hM3 := hM2.trans (Mix.ofWrote (s := s) hO3)
          refine hK.out _ _ (hF w3 hM3) (fun _ => ?_)
          clear hK K
          (repeat (first | (refine wpTree.take (v := undef) (Or.inr ⟨by rfl, rfl⟩) ?_; simp only [Act.put, List.setIfInBounds_toArray, List.set_cons_zero, List.set_cons_succ]) | (refine wpTree.take (v := ?_) (Or.inl ⟨by rfl, ?_⟩) ?_; rotate_left; (focus (intro _ hS; (try dsimp only at hS); go_split_ands; (try subst hS); go_simp; (try (with_reducible rfl)); done)); simp only [Act.put, List.setIfInBounds_toArray, List.set_cons_zero, List.set_cons_succ])))
          refine wpTree.done ?_
          clear hHeld
          have HM3 := Lib.hid hM3
          have HB3 := Lib.hid (hB2.wrote hO3 hA2.sg hA2.sr hA2.LB)
          rw [List.append_assoc] at hW3
          have HW3 := Lib.hid hW3
          clear hO hO' hM2 hW2 hA2 hB2 hW3 hO3 hM3 hF hSep hS3 hown hro hul
          go_wp2_with fail
          go_roundw
          case rel =>
            have hpp := (HPP.out t).trans (bindP_ok HRN.out)
            exact ⟨j + 1, by omega, by go_num, _, _, (partsP_ok hpp).symm.trans HP.out, HB3.out, HW3.out, HM.out.trans HM3.out, by rw [← HEQ.out, part_one HT.out hpp, List.append_assoc]⟩
          case measure => simp [intOf]; omega
      · rw [h0] at d0
        have HPP := Lib.hid (show ∀ bs, partP p bs = bindP floatP (fun b t => .ok (encF b, t)) bs from fun bs => by unfold partP; rw [if_neg (by omega), if_neg (by omega), if_neg (by omega), if_pos h0])
        have HX := Lib.hid (rfloat_any k s t wr.drew (show Rdr wr.drew k s from HRD.out) HR.out.drew HT.out)
        clear h0
        obtain ⟨r, hr⟩ : ∃ r, r = floatP t := ⟨_, rfl⟩
        have HRN := Lib.hid hr.symm
        rw [← hr] at HX
        clear hr
        go_wp2_with fail
        match r with
        | .error x =>
          refine wp_region_tree (S := (fun W' => W'.cell? ⟨c2, 0, none⟩ = some (.pointer (some ⟨g, 0, none⟩)))) (.take 0 (.take 1 (.one 2 (.one 3 .nil)))) 9999 (by kernel_rfl) (by kernel_rfl) (by kernel_rfl) (by kernel_rfl) (by kernel_rfl) (fun _ _ d _ _ h => by cases d <;> exact h) ?_ (fun hHeld => ?_); (focus (exact q2)); simp only [Tree.map, List.getElem?_toArray, List.getElem?_cons_zero, List.getElem?_cons_succ]
          (repeat (first | (refine wpTree.take (v := undef) (Or.inr ⟨by rfl, rfl⟩) ?_; simp only [Act.put, List.setIfInBounds_toArray, List.set_cons_zero, List.set_cons_succ]) | (refine wpTree.take (v := ?_) (Or.inl ⟨by rfl, ?_⟩) ?_; rotate_left; (focus (intro _ hS; (try dsimp only at hS); go_split_ands; (try subst hS); go_simp; (try (with_reducible rfl)); done)); simp only [Act.put, List.setIfInBounds_toArray, List.set_cons_zero, List.set_cons_succ])))
          refine wpTree.one (fun K hK => ?_)
          go_simp
          go_at_call 26
          refine HX.out.mono ?_
          rintro e w2 ⟨hO, rfl, hMt⟩
          exact ⟨rfl, HM.out.trans (Mix.ofOff hO.undrew HAP.out.g1 (Ne.symm HAP.out.sg)), by rw [← HP.out, partsP_err ((HPP.out t).trans (bindP_err HRN.out))]; exact ⟨rfl, hMt⟩⟩
        | .ok (v, u) =>
          have HV := Lib.hid (float_one HT.out HRN.out).2
          refine wp_region_tree (S := (fun W' => W'.cell? ⟨c2, 0, none⟩ = some (.pointer (some ⟨g, 0, none⟩)))) (.take 0 (.take 1 (.one 2 (.one 3 .nil)))) 9999 (by kernel_rfl) (by kernel_rfl) (by kernel_rfl) (by kernel_rfl) (by kernel_rfl) (fun _ _ d _ _ h => by cases d <;> exact h) ?_ (fun hHeld => ?_); (focus (exact q2)); simp only [Tree.map, List.getElem?_toArray, List.getElem?_cons_zero, List.getElem?_cons_succ]
          (repeat (first | (refine wpTree.take (v := undef) (Or.inr ⟨by rfl, rfl⟩) ?_; simp only [Act.put, List.setIfInBounds_toArray, List.set_cons_zero, List.set_cons_succ]) | (refine wpTree.take (v := ?_) (Or.inl ⟨by rfl, ?_⟩) ?_; rotate_left; (focus (intro _ hS; (try dsimp only at hS); go_split_ands; (try subst hS); go_simp; (try (with_reducible rfl)); done)); simp only [Act.put, List.setIfInBounds_toArray, List.set_cons_zero, List.set_cons_succ])))
          refine wpTree.one (fun K hK => ?_)
          go_simp
          go_at_call 26
          refine HX.out.mono ?_
          rintro e w2 ⟨hO, rfl, hB2⟩
          have hO' := hO.undrew
          have hM2 : Mix s g wr w2 := Mix.ofOff hO' HAP.out.g1 (Ne.symm HAP.out.sg)
          have hW2 := HW.out.off hO' (Ne.symm HAP.out.sg) HAP.out.sr
          have hA2 := HAP.out.next hM2
          refine hK.out _ _ ((HF2.out.cell hM2).trans q2) (fun _ => ?_)
          clear hK K
          refine wpTree.one (fun K hK => ?_)
          go_simp
          go_at_call 25
          refine (wfloat_any B g v acc w2 hW2 HV.out (by have := HLEN.out; omega)).mono ?_
          rintro e w3 ⟨rfl, hW3, hO3⟩
          have hM3 := hM2.trans (Mix.ofWrote (s := s) hO3)
          refine hK.out _ _ ((HF2.out.cell hM3).trans q2) (fun _ => ?_)
          clear hK K
          (repeat (first | (refine wpTree.take (v := undef) (Or.inr ⟨by rfl, rfl⟩) ?_; simp only [Act.put, List.setIfInBounds_toArray, List.set_cons_zero, List.set_cons_succ]) | (refine wpTree.take (v := ?_) (Or.inl ⟨by rfl, ?_⟩) ?_; rotate_left; (focus (intro _ hS; (try dsimp only at hS); go_split_ands; (try subst hS); go_simp; (try (with_reducible rfl)); done)); simp only [Act.put, List.setIfInBounds_toArray, List.set_cons_zero, List.set_cons_succ])))
          refine wpTree.done ?_
          clear hHeld
          have HM3 := Lib.hid hM3
          have HB3 := Lib.hid (hB2.wrote hO3 hA2.sg hA2.sr hA2.LB)
          have HW3 := Lib.hid hW3
          clear hO hO' hM2 hW2 hA2 hB2 hW3 hO3 hM3
          go_wp2_with fail
          go_roundw
          case rel =>
            have hpp := (HPP.out t).trans (bindP_ok HRN.out)
            exact ⟨j + 1, by omega, by go_num, _, _, (partsP_ok hpp).symm.trans HP.out, HB3.out, HW3.out, HM.out.trans HM3.out, by rw [← HEQ.out, part_one HT.out hpp, List.append_assoc]⟩
          case measure => simp [intOf]; omega
      · rw [h0] at d0
        have HPP := Lib.hid (show ∀ bs, partP p bs = bindP vectorP (fun l t => .ok (encV (lv l), t)) bs from fun bs => by unfold partP; rw [if_neg (by omega), if_neg (by omega), if_neg (by omega), if_neg (by omega), if_pos h0])
        have HX := Lib.hid (rvector_any k s t wr.drew (show L ≤ wr.heap.size from Nat.le_trans HAP.out.LB HAP.out.Bs) (show Rdr wr.drew k s from HRD.out) HR.out.drew)
        clear h0
        obtain ⟨r, hr⟩ : ∃ r, r = vectorP t := ⟨_, rfl⟩
        have HRN := Lib.hid hr.symm
        rw [← hr] at HX
        clear hr
        go_wp2_with fail
        match r with
        | .error x =>
          refine wp_region_tree (S := (fun W' => W'.cell? ⟨c2, 0, none⟩ = some (.pointer (some ⟨g, 0, none⟩)))) (.take 0 (.take 1 (.one 2 (.one 3 .nil)))) 9999 (by kernel_rfl) (by kernel_rfl) (by kernel_rfl) (by kernel_rfl) (by kernel_rfl) (fun _ _ d _ _ h => by cases d <;> exact h) ?_ (fun hHeld => ?_); (focus (exact q2)); simp only [Tree.map, List.getElem?_toArray, List.getElem?_cons_zero, List.getElem?_cons_succ]
          (repeat (first | (refine wpTree.take (v := undef) (Or.inr ⟨by rfl, rfl⟩) ?_; simp only [Act.put, List.setIfInBounds_toArray, List.set_cons_zero, List.set_cons_succ]) | (refine wpTree.take (v := ?_) (Or.inl ⟨by rfl, ?_⟩) ?_; rotate_left; (focus (intro _ hS; (try dsimp only at hS); go_split_ands; (try subst hS); go_simp; (try (with_reducible rfl)); done)); simp only [Act.put, List.setIfInBounds_toArray, List.set_cons_zero, List.set_cons_succ])))
          refine wpTree.one (fun K hK => ?_)
          go_simp
          go_at_call 28
          refine HX.out.mono ?_
          rintro e w2 ⟨hO, rfl, hMt⟩
          exact ⟨rfl, HM.out.trans (Mix.ofOff hO.undrew HAP.out.g1 (Ne.symm HAP.out.sg)), by rw [← HP.out, partsP_err ((HPP.out t).trans (bindP_err HRN.out))]; exact ⟨rfl, hMt⟩⟩
        | .ok (v, u) =>
          have HV := Lib.hid (vector_one HT.out HRN.out).2.2.1
          refine wp_region_tree (S := (fun W' => W'.cell? ⟨c2, 0, none⟩ = some (.pointer (some ⟨g, 0, none⟩)))) (.take 0 (.take 1 (.one 2 (.one 3 .nil)))) 9999 (by kernel_rfl) (by kernel_rfl) (by kernel_rfl) (by kernel_rfl) (by kernel_rfl) (fun _ _ d _ _ h => by cases d <;> exact h) ?_ (fun hHeld => ?_); (focus (exact q2)); simp only [Tree.map, List.getElem?_toArray, List.getElem?_cons_zero, List.getElem?_cons_succ]
          (repeat (first | (refine wpTree.take (v := undef) (Or.inr ⟨by rfl, rfl⟩) ?_; simp only [Act.put, List.setIfInBounds_toArray, List.set_cons_zero, List.set_cons_succ]) | (refine wpTree.take (v := ?_) (Or.inl ⟨by rfl, ?_⟩) ?_; rotate_left; (focus (intro _ hS; (try dsimp only at hS); go_split_ands; (try subst hS); go_simp; (try (with_reducible rfl)); done)); simp only [Act.put, List.setIfInBounds_toArray, List.set_cons_zero, List.set_cons_succ])))
          refine wpTree.one (fun K hK => ?_)
          go_simp
          go_at_call 28
          refine HX.out.mono ?_
          rintro e w2 ⟨hO, rfl, hB2⟩
          have hO' := hO.undrew
          have hM2 : Mix s g wr w2 := Mix.ofOff hO' HAP.out.g1 (Ne.symm HAP.out.sg)
          have hW2 := HW.out.off hO' (Ne.symm HAP.out.sg) HAP.out.sr
          have hA2 := HAP.out.next hM2
          refine hK.out _ _ ((HF2.out.cell hM2).trans q2) (fun _ => ?_)
          clear hK K
          refine wpTree.one (fun K hK => ?_)
          go_simp
          go_at_call 27
          refine (wvector_any B g (lv v) acc w2 hW2 HV.out (by have := HLEN.out; omega)).mono ?_
          rintro e w3 ⟨rfl, hW3, hO3⟩
          have hM3 := hM2.trans (Mix.ofWrote (s := s) hO3)
          refine hK.out _ _ ((HF2.out.cell hM3).trans q2) (fun _ => ?_)
          clear hK K
          (repeat (first | (refine wpTree.take (v := undef) (Or.inr ⟨by rfl, rfl⟩) ?_; simp only [Act.put, List.setIfInBounds_toArray, List.set_cons_zero, List.set_cons_succ]) | (refine wpTree.take (v := ?_) (Or.inl ⟨by rfl, ?_⟩) ?_; rotate_left; (focus (intro _ hS; (try dsimp only at hS); go_split_ands; (try subst hS); go_simp; (try (with_reducible rfl)); done)); simp only [Act.put, List.setIfInBounds_toArray, List.set_cons_zero, List.set_cons_succ])))
          refine wpTree.done ?_
          clear hHeld
          have HM3 := Lib.hid hM3
          have HB3 := Lib.hid (hB2.wrote hO3 hA2.sg hA2.sr hA2.LB)
          have HW3 := Lib.hid hW3
          clear hO hO' hM2 hW2 hA2 hB2 hW3 hO3 hM3
          go_wp2_with fail
          go_roundw
          case rel =>
            have hpp := (HPP.out t).trans (bindP_ok HRN.out)
            exact ⟨j + 1, by omega, by go_num, _, _, (partsP_ok hpp).symm.trans HP.out, HB3.out, HW3.out, HM.out.trans HM3.out, by rw [← HEQ.out, part_one HT.out hpp, List.append_assoc]⟩
          case measure => simp [intOf]; omega
      · have HPP := Lib.hid (show ∀ bs, partP p bs = .ok ([], bs) from fun bs => by unfold partP; rw [if_neg h0, if_neg h1, if_neg h2, if_neg h3, if_neg h4])
        have e0 : (p.k == 0) = false := by simpa using h0
        have e1 : (p.k == 1) = false := by simpa using h1
        have e2 : (p.k == 2) = false := by simpa using h2
        have e3 : (p.k == 3) = false := by simpa using h3
        have e4 : (p.k == 4) = false := by simpa using h4
        clear h0 h1 h2 h3 h4
        go_wp2_with fail
        go_roundw
        case rel =>
          have hpp := HPP.out t
          exact ⟨j + 1, by omega, by go_num, _, _, (partsP_ok hpp).symm.trans HP.out, HR.out, by rw [List.append_nil]; exact HW.out, HM.out, by rw [List.append_nil]; exact HEQ.out⟩
        case measure => simp [intOf]; omega
    · obtain rfl : j = l.length := by omega
      have HE := Lib.hid (show partsP l [] bs = .ok (acc, t) by rw [← HP.out, List.drop_of_length_le (Nat.le_refl _)]; rfl)
      clear hlt
      go_wp2_with fail
      exact ⟨rfl, .tuple #[], by simp [results, Try.results18, go_sem], HM.out, by rw [HE.out]; exact ⟨rfl, HR.out, HW.out⟩⟩
end Go.Proofs.Ytnoeogbihjpacaa

/-
peers: Get: peers of bytes.
-/
import Derived.Test.YtlceljcplmcjgaaPe7
namespace Go.Proofs.Ytlceljcplmcjgaa
open Go.RowKit
set_option linter.unusedSimpArgs false
set_option linter.unusedVariables false
namespace Pe
def PS.setSub (x : PS) (k : Nat) (s : Int) (p : Nat → Bool) : PS := { x with st := fun i => if i = k then s else x.st i, pe := fun i l => if i = k then p l else x.pe i l }
theorem ps_setSub (x : PS) {k : Nat} (hk : k < 12) (s : Int) (p : Nat → Bool) : x.cells.take (1 + k * 13) ++ sl s p ++ x.cells.drop (1 + k * 13 + 13) = (x.setSub k s p).cells := by
  apply List.ext_getElem?
  intro i
  rw [List.append_assoc]
  by_cases h1 : i < 1 + k * 13
  · rw [List.getElem?_append_left (by rw [List.length_take, ps_len]; omega), List.getElem?_take_of_lt h1, ps_at _ i (by omega), ps_at _ i (by omega)]
    by_cases h0 : i = 0
    · rw [if_pos h0, if_pos h0]; rfl
    · rw [if_neg h0, if_neg h0]
      have hne : ¬ (i - 1) / 13 = k := by omega
      unfold PS.setSub
      dsimp only
      rw [if_neg hne, if_neg hne]
  · rw [List.getElem?_append_right (by rw [List.length_take, ps_len]; omega), List.length_take, ps_len, show min (1 + k * 13) 157 = 1 + k * 13 by omega]
    by_cases h2 : i < 1 + k * 13 + 13
    · rw [List.getElem?_append_left (by rw [sl_len]; omega), sl_at _ _ (by omega), ps_at _ i (by omega), if_neg (show ¬ i = 0 by omega)]
      have he : (i - 1) / 13 = k := by omega
      unfold PS.setSub
      dsimp only
      rw [if_pos he, if_pos he]
      by_cases h3 : i - (1 + k * 13) = 0
      · rw [if_pos h3, if_pos (by omega)]
      · rw [if_neg h3, if_neg (by omega), show i - (1 + k * 13) - 1 = (i - 1) % 13 - 1 by omega]
    · rw [List.getElem?_append_right (by rw [sl_len]; omega), sl_len, List.getElem?_drop, show 1 + k * 13 + 13 + (i - (1 + k * 13) - 13) = i by omega]
      by_cases hi : i < 157
      · rw [ps_at _ i hi, ps_at _ i hi, if_neg (show ¬ i = 0 by omega), if_neg (show ¬ i = 0 by omega)]
        have hne : ¬ (i - 1) / 13 = k := by omega
        unfold PS.setSub
        dsimp only
        rw [if_neg hne, if_neg hne]
      · rw [ps_out _ i hi, ps_out _ i hi]
theorem pp_setSub {W : World} {B d : Nat} {x : PS} (h : PP W B d x) {k : Nat} (hk : k < 12) (s : Int) (p : Nat → Bool) : PP (W.setCells d (1 + k * 13) (sl s p)) B d (x.setSub k s p) := by
  have h0 := h.1
  rw [pp_split x hk] at h0
  have h1 := Blk.setMid (sl s p) (x.cells.take (1 + k * 13)) ((x.cells.drop (1 + k * 13)).take 13) (x.cells.drop (1 + k * 13 + 13)) W h0 (by rw [sl_len, List.length_take, List.length_drop, ps_len]; omega)
  rw [ps_setSub x hk, List.length_take, ps_len, show min (1 + k * 13) 157 = 1 + k * 13 by omega] at h1
  exact ⟨h1, h.2⟩
def allA (nd : Int) (x : PS) (j : Nat) : Nat → List Nat → Except Int (PS × List Nat)
  | 0, bs => .ok (x, bs)
  | m + 1, bs => match subP nd bs with
    | .error y => .error y
    | .ok ((s, p), t) => allA nd (x.setSub j s p) (j + 1) m t
def peersP (bs : List Nat) : Except Int (PS × List Nat) :=
  match smallP 12 bs with
  | .error y => .error y
  | .ok (n, t) => if 1 ≤ n then allA (n : Nat) (PS.new (n : Nat)) 0 12 t else .error 3
theorem allA_err {nd : Int} {x : PS} {j m : Nat} {bs : List Nat} {y : Int} (h : subP nd bs = .error y) : allA nd x j (m + 1) bs = .error y := by simp only [allA, h]
theorem allA_ok {nd : Int} {x : PS} {j m : Nat} {bs t : List Nat} {s : Int} {p : Nat → Bool} (h : subP nd bs = .ok ((s, p), t)) : allA nd x j (m + 1) bs = allA nd (x.setSub j s p) (j + 1) m t := by simp only [allA, h]
theorem allA_ne0 : ∀ (m : Nat) (nd : Int) (x : PS) (j : Nat) (bs : List Nat) (y : Int), allA nd x j m bs = .error y → y ≠ 0
  | 0, nd, x, j, bs, y, h => by cases h
  | m + 1, nd, x, j, bs, y, h => by
    cases hv : subP nd bs with
    | error z => rw [allA_err hv] at h; cases h; exact subP_ne0 hv
    | ok z => obtain ⟨⟨s, p⟩, t⟩ := z; rw [allA_ok hv] at h; exact allA_ne0 m _ _ _ _ _ h
theorem peersP_err {bs : List Nat} {y : Int} (h : smallP 12 bs = .error y) : peersP bs = .error y := by unfold peersP; rw [h]
theorem peersP_not {bs t : List Nat} (h : smallP 12 bs = .ok (0, t)) : peersP bs = .error 3 := by unfold peersP; rw [h]; rfl
theorem peersP_ok {bs t : List Nat} {n : Nat} (h : smallP 12 bs = .ok (n, t)) (h1 : 1 ≤ n) : peersP bs = allA (n : Nat) (PS.new (n : Nat)) 0 12 t := by unfold peersP; rw [h]; dsimp only; rw [if_pos h1]
theorem peersP_ne0 {bs : List Nat} {y : Int} (h : peersP bs = .error y) : y ≠ 0 := by
  cases hv : smallP 12 bs with
  | error z => rw [peersP_err hv] at h; cases h; exact Nd.smallP_ne0 hv
  | ok z =>
    obtain ⟨n, t⟩ := z
    by_cases h1 : 1 ≤ n
    · rw [peersP_ok hv h1] at h; exact allA_ne0 _ _ _ _ _ _ h
    · obtain rfl : n = 0 := by omega
      rw [peersP_not hv] at h; cases h; decide
/-- Peers that are being read. -/
structure AM (L : Nat) (W w : World) (k s d : Nat) (cur : List Nat) (x : PS) : Prop where
  hk : k < W.heap.size
  hs : s < W.heap.size
  hL : L ≤ W.heap.size
  off : Off s W w
  rd : RdB L w s cur
  rr : Rdr w k s
  pp : PP w W.heap.size d x
section
variable {L : Nat} {W w w' : World} {k s d : Nat} {cur cur' : List Nat} {x : PS}
theorem AM.read (h : AM L W w k s d cur x) (hO : Off s w w') (hB : RdB L w' s cur') : AM L W w' k s d cur' x :=
  ⟨h.hk, h.hs, h.hL, h.off.trans hO, hB, h.rr.off hO, h.pp.keep (hO.block d h.pp.lt (by have := h.hs; have := h.pp.2; omega))⟩
theorem AM.drew (h : AM L W w k s d cur x) : AM L W w.drew k s d cur x :=
  ⟨h.hk, h.hs, h.hL, h.off.trans ⟨rfl, rfl, rfl, Nat.le_refl _, fun _ _ _ => rfl⟩, h.rd, h.rr, h.pp⟩
theorem AM.fill (h : AM L W w k s d cur x) {j : Nat} (hj : j < 12) (st : Int) (p : Nat → Bool) : AM L W (w.setCells d (1 + j * 13) (sl st p)) k s d cur (x.setSub j st p) := by
  have hd := h.pp.2
  have hk : ∀ b, b ≠ d → (w.setCells d (1 + j * 13) (sl st p)).heap[b]? = w.heap[b]? := fun b hb => setCells_other d _ _ w b hb
  have hz : (w.setCells d (1 + j * 13) (sl st p)).heap.size = w.heap.size := setCells_size d _ _ w
  have hbl := setCells_below (B := W.heap.size) (a := w) (g := d) hd (sl st p) (1 + j * 13) w (Below.refl _ _)
  refine ⟨h.hk, h.hs, h.hL, ⟨hbl.os.trans h.off.os, hbl.tape.trans h.off.tape, hbl.output.trans h.off.output, by rw [hz]; exact h.off.size, fun b hb hs => (hk b (by omega)).trans (h.off.block b hb hs)⟩, ?_, ?_, pp_setSub h.pp hj st p⟩
  · exact Nd.rdb_keep h.rd (hk s (by have := h.hs; omega)) (fun b hb _ _ => hk b (by have := h.hL; omega)) (by rw [hz]; exact Nat.le_refl _)
  · exact ⟨h.rr.1, (World.cell?_of_block (hk k (by have := h.hk; omega))).trans h.rr.2⟩
end
/-- What a reading of peers ends in. -/
def EndA (L s : Nat) (W : World) (bs : List Nat) (e : Ending) (W' : World) : Prop :=
  Off s W W' ∧ match peersP bs with
  | .error y => e = .panicked [{ v := flt s, recovered := false }] ∧ Met' W' s y
  | .ok (x, r) => ∃ d, e = .returned (.pointer (some ⟨d, 0, none⟩)) ∧ PP W' W.heap.size d x ∧ RdB L W' s r
theorem EndA.err {L s : Nat} {W W' : World} {bs : List Nat} {y : Int} (h : peersP bs = .error y) (hO : Off s W W') (hM : Met' W' s y) : EndA L s W bs (.panicked [{ v := flt s, recovered := false }]) W' := by
  unfold EndA; rw [h]; exact ⟨hO, rfl, hM⟩
theorem EndA.ok {L s d : Nat} {W W' : World} {bs r : List Nat} {x : PS} (h : peersP bs = .ok (x, r)) (hO : Off s W W') (hP : PP W' W.heap.size d x) (hB : RdB L W' s r) : EndA L s W bs (.returned (.pointer (some ⟨d, 0, none⟩))) W' := by
  unfold EndA; rw [h]; exact ⟨hO, d, rfl, hP, hB⟩
section
variable {L k s : Nat} {W : World} {bs : List Nat}
set_option maxRecDepth 20000 in
set_option maxHeartbeats 16000000 in
theorem get_any (hr : Rdr W k s) (h : RdB L W s bs) (hk : k < W.heap.size) (hs : s < W.heap.size) (hL : L ≤ W.heap.size) :
    Calls Try.prog 50 #[.pointer (some ⟨k, 0, none⟩)] W fun e W' => EndA L s W bs e W' := by
  have HS1 := Lib.hid (rsmall_any k s bs 12 W hr h (by decide))
  have HST := Lib.hid (And.intro hk (And.intro hs hL))
  have HR0 := Lib.hid hr
  obtain ⟨R, hR⟩ : ∃ R, R = smallP 12 bs := ⟨_, rfl⟩
  have hRle := fun v t h => Nd.small_le (most := 12) (bs := bs) (v := v) (t := t) h
  rw [← hR] at HS1 hRle
  clear hr h hk hs hL
  match R with
  | .error y =>
    have HQ := Lib.hid (peersP_err hR.symm)
    clear hRle hR
    go_enter Try.func50, Try.ntmps50
    go_wp2_with (go_at_call 58; refine HS1.out.mono ?_; rintro e w2 ⟨hO, rfl, hM⟩; have HO := Lib.hid hO; have HM := Lib.hid hM; clear hO hM HS1)
    exact ⟨rfl, .err HQ.out HO.out HM.out⟩
  | .ok (n, t) =>
    have HLE := Lib.hid (hRle n t rfl)
    clear hRle
    by_cases hn1 : 1 ≤ n
    · have HQ := Lib.hid (peersP_ok hR.symm hn1)
      have HNB := Lib.hid (num_in.2 (show 1 ≤ ((n : Nat) : Int) ∧ ((n : Nat) : Int) ≤ 12 from ⟨by omega, HLE.out⟩))
      clear hR hn1
      go_enter Try.func50, Try.ntmps50
      go_upto_region 2 with (first | (go_at_call 58; refine HS1.out.mono ?_; rintro e w2 ⟨hO, rfl, hB⟩; have HO := Lib.hid hO; have HB := Lib.hid hB; clear hO hB HS1) | (go_at_call 7; refine (new_yes w2 ((n : Nat) : Int) HNB.out).mono ?_; rintro e w3 ⟨rfl, hp, hb, -⟩; have HP3 := Lib.hid hp; have HB3 := Lib.hid hb; clear hp hb))
      have hAM : AM L W w3 k s w2.heap.size t (PS.new ((n : Nat) : Int)) :=
        ⟨HST.out.1, HST.out.2.1, HST.out.2.2, HO.out.trans ⟨HB3.out.os, HB3.out.tape, HB3.out.output, HB3.out.size, fun b h _ => HB3.out.block b h⟩,
          Nd.rdb_keep HB.out (HB3.out.block s (Nat.lt_of_lt_of_le HST.out.2.1 HO.out.size)) (fun b _ _ h2 => HB3.out.block b h2) HB3.out.size,
          (HR0.out.off HO.out).off ⟨HB3.out.os, HB3.out.tape, HB3.out.output, HB3.out.size, fun b h _ => HB3.out.block b h⟩, HP3.out.1, HO.out.size⟩
      obtain ⟨d, hd⟩ : ∃ d, d = w2.heap.size := ⟨_, rfl⟩
      rw [← hd] at hAM
      (try rw [← hd])
      have HAM := Lib.hid hAM
      clear hAM hd HP3 HB3 HO HB
      go_upto_region 6 with (go_at_call 59; refine (rmust_yes k s t _ HAM.out.rr HAM.out.rd).mono ?_; rintro e w4 ⟨rfl, rfl⟩)
      obtain ⟨nd, hnd⟩ : ∃ nd : Int, nd = ((n : Nat) : Int) := ⟨_, rfl⟩
      rw [← hnd] at HAM HQ
      go_loopw [18] (fun i wr => ∃ (j : Nat) (x : PS) (cur : List Nat), j ≤ 12 ∧ x.n = nd ∧ i = .int .i64 j ∧ AM L W wr k s d cur x ∧ peersP bs = allA nd x j (12 - j) cur) (fun i _ => 12 - (intOf i).toNat)
      case atStart => exact ⟨0, PS.new nd, t, Nat.zero_le _, rfl, rfl, HAM.out, HQ.out⟩
      case round =>
        clear HAM
        obtain ⟨j, x, cur, hj, hxn, rfl, hM, hP⟩ := hrel
        have HM := Lib.hid hM
        have HPA := Lib.hid hP
        have HXN := Lib.hid hxn
        clear hM hP hxn
        by_cases hlt : j < 12
        · have i1 : (j : Int) < 12 := by omega
          have i2 : ¬ (j : Int) < 0 := by omega
          obtain ⟨jj, hjj⟩ : ∃ jj, jj = j + 1 := ⟨_, rfl⟩
          have HW := Lib.hid (Nd.wrap_n j jj hjj (by omega))
          have HJ := Lib.hid (And.intro hjj hlt)
          have hnj : 12 - j = (12 - jj) + 1 := by omega
          have HNJ := Lib.hid hnj
          have HG := Lib.hid (getsub_any (nd := nd) (d := d) HM.out.drew.rr HM.out.drew.rd (Nat.lt_of_lt_of_le HM.out.hk HM.out.off.size) (Nat.lt_of_lt_of_le HM.out.hs HM.out.off.size) (Nat.le_trans HM.out.hL HM.out.off.size) HM.out.pp.lt (by have := HM.out.hs; have := HM.out.pp.2; omega) (by rw [← HXN.out]; exact HM.out.drew.pp.c0))
          obtain ⟨R3, hR3⟩ : ∃ R, R = subP nd cur := ⟨_, rfl⟩
          unfold EndS at HG
          rw [← hR3] at HG
          clear hj hlt hjj hnj
          match R3 with
          | .error y =>
            have HE := Lib.hid (HPA.out.trans ((congrArg (fun m => allA nd x j m cur) HNJ.out).trans (allA_err hR3.symm)))
            clear hR3
            go_upto_region 8 with fail
            clear i1
            refine wp_region_tree (S := (fun _ => True)) (.take 0 (.take 1 (.take 2 (.take 3 (.take 5 (.take 6 (.one 4 (.take 7 (.one 8 .nil))))))))) 9999 (by kernel_rfl) (by kernel_rfl) (by kernel_rfl) (by kernel_rfl) (by kernel_rfl) (fun _ _ d _ _ h => by cases d <;> exact h) trivial (fun hHeld => ?_); simp only [Tree.map, List.getElem?_toArray, List.getElem?_cons_zero, List.getElem?_cons_succ]
            (repeat (first | (refine wpTree.take (v := undef) (Or.inr ⟨by rfl, rfl⟩) ?_; simp only [Act.put, List.setIfInBounds_toArray, List.set_cons_zero, List.set_cons_succ]) | (refine wpTree.take (v := ?_) (Or.inl ⟨by rfl, ?_⟩) ?_; rotate_left; (focus (intro _ hS; (try dsimp only at hS); go_split_ands; (try subst hS); go_simp; (try (with_reducible rfl)); done)); simp only [Act.put, List.setIfInBounds_toArray, List.set_cons_zero, List.set_cons_succ])))
            refine wpTree.one (fun K hK => ?_)
            go_simp
            go_at_call 60
            refine HG.out.mono ?_
            rintro e w5 ⟨hO, rfl, hMT⟩
            exact ⟨rfl, .err HE.out (HM.out.drew.off.trans hO) hMT⟩
          | .ok ((st, p), t') =>
            have HE := Lib.hid (HPA.out.trans ((congrArg (fun m => allA nd x j m cur) HNJ.out).trans (allA_ok hR3.symm)))
            clear hR3
            go_upto_region 8 with fail
            clear i1
            have i1 : (j : Int) < 12 := by have := HJ.out; omega
            refine wp_region_tree (S := (fun _ => True)) (.take 0 (.take 1 (.take 2 (.take 3 (.take 5 (.take 6 (.one 4 (.take 7 (.one 8 .nil))))))))) 9999 (by kernel_rfl) (by kernel_rfl) (by kernel_rfl) (by kernel_rfl) (by kernel_rfl) (fun _ _ d _ _ h => by cases d <;> exact h) trivial (fun hHeld => ?_); simp only [Tree.map, List.getElem?_toArray, List.getElem?_cons_zero, List.getElem?_cons_succ]
            (repeat (first | (refine wpTree.take (v := undef) (Or.inr ⟨by rfl, rfl⟩) ?_; simp only [Act.put, List.setIfInBounds_toArray, List.set_cons_zero, List.set_cons_succ]) | (refine wpTree.take (v := ?_) (Or.inl ⟨by rfl, ?_⟩) ?_; rotate_left; (focus (intro _ hS; (try dsimp only at hS); go_split_ands; (try subst hS); go_simp; (try (with_reducible rfl)); done)); simp only [Act.put, List.setIfInBounds_toArray, List.set_cons_zero, List.set_cons_succ])))
            refine wpTree.one (fun K hK => ?_)
            go_simp
            go_at_call 60
            refine HG.out.mono ?_
            rintro e w5 ⟨hO, rfl, hB⟩
            have HM5 := Lib.hid (HM.out.drew.read hO hB)
            refine hK.out _ _ trivial (fun _ => ?_)
            clear hK K hHeld hO hB HG
            (try simp only [Act.put, List.setIfInBounds_toArray, List.set_cons_zero, List.set_cons_succ])
            (repeat (first | (refine wpTree.take (v := undef) (Or.inr ⟨by rfl, rfl⟩) ?_; simp only [Act.put, List.setIfInBounds_toArray, List.set_cons_zero, List.set_cons_succ]) | (refine wpTree.take (v := ?_) (Or.inl ⟨by rfl, ?_⟩) ?_; rotate_left; (focus (intro _ hS; (try dsimp only at hS); go_split_ands; (try subst hS); go_simp; (try (with_reducible rfl)); done)); simp only [Act.put, List.setIfInBounds_toArray, List.set_cons_zero, List.set_cons_succ])))
            have hth : w5.there d (1 + j * 13) (sl st p).toArray.size := HM5.out.pp.1.there (by rw [sl_size, List.size_toArray, ps_len]; have := HJ.out; omega)
            refine wpTree.one (fun K hK => ?_)
            rw [if_pos (by rfl)]
            refine wp_store_mid 47 _ _ rfl d (1 + j * 13) (sl st p).toArray rfl rfl hth (slinfoA _ _) (sl_all _ _) ?_
            rw [show (sl st p).toArray.toList = sl st p from rfl]
            have HM6 := Lib.hid (HM5.out.fill HJ.out.2 st p)
            refine hK.out _ _ trivial (fun _ => ?_)
            clear hK K hth
            (try simp only [Act.put, List.setIfInBounds_toArray, List.set_cons_zero, List.set_cons_succ])
            refine wpTree.done ?_
            go_wp2_with fail
            (try rw [HW.out])
            go_roundw
            case rel => exact ⟨jj, x.setSub j st p, t', by have := HJ.out; omega, HXN.out, by first | rfl | simp [HJ.out.1], HM6.out, by rw [HE.out, ← HJ.out.1]⟩
            case measure => have := HJ.out; simp [intOf]; omega
        · have i1 : ¬ (j : Int) < 12 := by omega
          have hj12 : j = 12 := by omega
          subst hj12
          clear hj hlt
          go_wp2_with fail
          go_ret
          exact .ok HPA.out HM.out.off HM.out.pp HM.out.rd
    · have hn0 : n = 0 := by omega
      subst hn0
      have HQ := Lib.hid (peersP_not hR.symm)
      have HNB := Lib.hid (numB_no (show ¬ (1 ≤ ((0 : Nat) : Int) ∧ ((0 : Nat) : Int) ≤ 12) by omega))
      clear hR hn1
      go_enter Try.func50, Try.ntmps50
      go_wp2_with (first | (go_at_call 58; refine HS1.out.mono ?_; rintro e w2 ⟨hO, rfl, hB⟩; have HO := Lib.hid hO; have HB := Lib.hid hB; clear hO hB HS1) | (go_at_call 7; refine (new_not w2 _ HNB.out).mono ?_; rintro e w3 ⟨rfl, rfl⟩) | (go_at_call 59; refine (rmust_not k s t _ (HR0.out.off HO.out) HB.out).mono ?_; rintro e w4 ⟨rfl, hM, hO2⟩; have HMT := Lib.hid hM; have HO2 := Lib.hid hO2; clear hM hO2))
      exact ⟨rfl, .err HQ.out (HO.out.trans HO2.out) HMT.out⟩
end
end Pe
end Go.Proofs.Ytlceljcplmcjgaa

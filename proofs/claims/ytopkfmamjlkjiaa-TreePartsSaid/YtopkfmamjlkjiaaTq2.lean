/-
tree: Get.
-/
import Derived.Test.YtopkfmamjlkjiaaTq
import Derived.Test.YtopkfmamjlkjiaaTh3
namespace Go.Proofs.Ytopkfmamjlkjiaa
open Go.RowKit
set_option linter.unusedSimpArgs false
set_option linter.unusedVariables false
namespace Tr
theorem kl_zero : #[Value.int .i64 0, .int .i64 0, .int .i64 0, .int .i64 0, .int .i64 0, .int .i64 0, .int .i64 0, .int .i64 0, .int .i64 0, .int .i64 0, .int .i64 0, .int .i64 0, .slice none 0 0] = (kl (fun _ => 0) ++ [Value.slice none 0 0]).toArray := by
  unfold kl
  rfl
theorem tv_siz (t : Tv) : (13 : Nat) = t.cells.toArray.size := by rw [List.size_toArray, tv_len]
theorem tv_all (t : Tv) : t.cells.toArray.all (·.oneCell') = true := by
  rw [List.all_toArray]
  exact List.all_eq_true.2 (tv_ones t)
theorem right_irrel {k : Nat → Int} {es : List (Int × Int)} {A : Option Addr} {c : Nat} {b : Bool} : RightP ⟨k, es, A, c⟩ b ↔ RightP ⟨k, es, none, 0⟩ b := Iff.rfl
theorem endG_bad {L s : Nat} {W W' : World} {bs : List Nat} {x : Int} (h : getP bs = .error x) (hO : Off s W W') (hM : Met' W' s x) : EndG L s W bs (.panicked [{ v := flt s, recovered := false }]) W' := by
  unfold EndG
  rw [h]
  exact ⟨hO, rfl, hM⟩
set_option maxRecDepth 20000 in
set_option maxHeartbeats 16000000 in
theorem get_any {L k s : Nat} {W : World} {bs : List Nat} (hr : Rdr W k s) (h : RdB L W s bs) (hk : k < W.heap.size) (hL : L ≤ W.heap.size) :
    Calls Try.prog 18 #[.pointer (some ⟨k, 0, none⟩)] W fun e W' => EndG L s W bs e W' := by
  have hs : s < W.heap.size := by obtain ⟨A, c, hR, _⟩ := h; exact World.block_lt_of_cell? W ⟨s, 0, none⟩ hR.1
  obtain ⟨w2, hw2⟩ : ∃ w2, w2 = (W.alloc (.cells #[.int .i64 0, .int .i64 0, .int .i64 0, .int .i64 0, .int .i64 0, .int .i64 0, .int .i64 0, .int .i64 0, .int .i64 0, .int .i64 0, .int .i64 0, .int .i64 0, .slice none 0 0] 25)).alloc (.cells #[.int .i64 0, .int .i64 0, .int .i64 0, .int .i64 0, .int .i64 0, .int .i64 0, .int .i64 0, .int .i64 0, .int .i64 0, .int .i64 0, .int .i64 0, .int .i64 0, .slice none 0 0] 25) := ⟨_, rfl⟩
  have hb2 : Below W.heap.size W w2 := by rw [hw2]; exact ((Below.refl _ _).alloc (Nat.le_refl _) _).alloc (by simp) _
  have hG2 : GM L W w2 k s W.heap.size (W.heap.size + 1) bs (fun _ => 0) (.slice none 0 0) (.slice none 0 0) [] := by
    refine ⟨hk, hs, hL, Nat.le_refl _, by omega, ⟨hb2.os, hb2.tape, hb2.output, hb2.size, fun b h _ => hb2.block b h⟩, rdb_keep h (hb2.block s hs) (fun b _ _ h2 => hb2.block b h2) hb2.size, ⟨hr.1, (hb2.cell (p := ⟨k, 0, none⟩) hk).trans hr.2⟩, ?_, ?_, by omega, OffR.nil _ _ _ _⟩
    · rw [hw2]; exact (Blk.new W _ _).alloc _
    · rw [hw2, ← kl_zero]; exact Blk.new' (by simp)
  have HG2 := Lib.hid hG2
  obtain ⟨R, hR⟩ : ∃ R, R = getP bs := ⟨_, rfl⟩
  have hE := hR
  unfold getP at hE
  obtain ⟨C, hC⟩ : ∃ C, C = kA (fun _ => 0) 0 12 bs := ⟨_, rfl⟩
  rw [← hC] at hE
  have HC := Lib.hid hC
  have HE := Lib.hid hE
  have HRR := Lib.hid hR
  clear hb2 hG2 hC hE hR hs hk hL hr h
  go_enter Try.func18, Try.ntmps18
  go_upto_region 3 with fail
  rw [← hw2]
  clear hw2
  obtain ⟨gr, hgr⟩ : ∃ g, g = W.heap.size := ⟨_, rfl⟩
  obtain ⟨gt, hgt⟩ : ∃ g, g = W.heap.size + 1 := ⟨_, rfl⟩
  rw [← hgt] at HG2
  (try rw [← hgt])
  have HG3 := Lib.hid (show GM L W w2 k s gr gt bs (fun _ => 0) (.slice none 0 0) (.slice none 0 0) [] by rw [hgr]; exact HG2.out)
  (try rw [← hgr])
  clear HG2 hgr hgt
  go_loopw [7] (fun i wr => ∃ j : Nat, j ≤ 12 ∧ i = .int .i64 j ∧ ∃ cur kd, GM L W wr k s gr gt cur kd (.slice none 0 0) (.slice none 0 0) [] ∧ Hid (C = kA kd j (12 - j) cur)) (fun i _ => 12 - (intOf i).toNat)
  case atStart => exact ⟨0, Nat.zero_le _, rfl, bs, _, HG3.out, HC⟩
  case round =>
    clear HG3 HC
    obtain ⟨j, hj, rfl, cur, kd, hG, HC⟩ := hrel
    have HG := Lib.hid hG
    clear hG
    by_cases hlt : j < 12
    · have i1 : (j : Int) < 12 := by omega
      have i2 : ¬ (j : Int) < 0 := by omega
      have HJ := Lib.hid hlt
      have HS := Lib.hid (rsmall_any k s cur 3 wr HG.out.rr HG.out.rd (by omega))
      have c1 : wr.cell? ⟨gt, j, none⟩ = some (.int .i64 (kd j)) := by rw [HG.out.bt.cell, List.getElem?_toArray, List.getElem?_append_left (by rw [kl_len]; exact hlt)]; exact kl_get kd hlt
      cases hv : smallP 3 cur with
      | error x =>
        rw [hv] at HS
        have HE2 := Lib.hid (show getP bs = .error x by
          have := HE.out
          rw [HC.out, show 12 - j = (12 - (j + 1)) + 1 by omega, kA_err hv] at this
          rw [← HRR.out]; exact this)
        clear hv hj hlt c1
        go_wp2_with (go_at_call 56; refine HS.out.mono ?_; rintro e w9 ⟨hO, rfl, hM⟩; have HO := Lib.hid (HG.out.off.trans hO); have HM := Lib.hid hM; clear hM hO HS)
        exact ⟨rfl, endG_bad HE2.out HO.out HM.out⟩
      | ok z =>
        obtain ⟨v, t⟩ := z
        rw [hv] at HS
        have HC2 := Lib.hid (show C = kA (kU kd j v) (j + 1) (12 - (j + 1)) t by
          have := HC.out
          rw [show 12 - j = (12 - (j + 1)) + 1 by omega, kA_ok hv] at this
          exact this)
        clear hv hj hlt c1 HC
        obtain ⟨jj, hjj⟩ : ∃ jj, jj = j + 1 := ⟨_, rfl⟩
        have HJJ := Lib.hid hjj
        clear hjj
        go_upto_region 6 with (go_at_call 56; refine HS.out.mono ?_; rintro e w3 ⟨hO, rfl, hM⟩; have HG4 := Lib.hid (HG.out.read hO hM); have c1 : w3.cell? ⟨gt, j, none⟩ = some (.int .i64 (kd j)) := (by rw [HG4.out.bt.cell, List.getElem?_toArray, List.getElem?_append_left (by rw [kl_len]; exact HJ.out)]; exact kl_get kd HJ.out); have z1 := HG4.out.bt.frozen j; clear hM hO HS)
        clear c1 z1
        have HG5 := Lib.hid (HG4.out.fill (kl_set kd (.slice none 0 0) (j := j) (n := v) HJ.out))
        go_wp2_with fail
        go_roundw
        case rel => exact ⟨j + 1, by have := HJ.out; omega, by simp, t, _, HG5.out, HC2⟩
        case measure => have := HJ.out; simp [intOf]; omega
    · have i1 : ¬ (j : Int) < 12 := by omega
      have hj12 : j = 12 := by omega
      subst hj12
      have HC2 := Lib.hid (show C = .ok (kd, cur) from HC.out)
      clear hj hlt HC
      have hE := HE.out
      rw [HC2.out] at hE
      dsimp only at hE
      have HS := Lib.hid (rsmall_any k s cur 11 wr HG.out.rr HG.out.rd (by omega))
      cases hv : smallP 11 cur with
      | error x =>
        rw [hv] at hE HS
        have HE2 := Lib.hid (show getP bs = .error x by rw [← HRR.out]; exact hE)
        clear hv hE
        go_wp2_with (go_at_call 56; refine HS.out.mono ?_; rintro e w9 ⟨hO, rfl, hM⟩; have HO := Lib.hid (HG.out.off.trans hO); have HM := Lib.hid hM; clear hM hO HS)
        exact ⟨rfl, endG_bad HE2.out HO.out HM.out⟩
      | ok z =>
        obtain ⟨n, u⟩ := z
        rw [hv] at hE HS
        dsimp only at hE
        have HN := Lib.hid (show n ≤ 11 by have := small_le hv; omega)
        obtain ⟨D, hD⟩ : ∃ D, D = eA [] n u := ⟨_, rfl⟩
        rw [← hD] at hE
        have HD := Lib.hid hD
        have HE3 := Lib.hid hE
        clear hv hE hD HE HC2
        go_upto_region 8 with (go_at_call 56; refine HS.out.mono ?_; rintro e w4 ⟨hO, rfl, hM⟩; have HG4 := Lib.hid (HG.out.read hO hM); clear hM hO HS)
        clear HG i1
        go_loopw [18] (fun i wy => ∃ j : Nat, j ≤ n ∧ i = .int .i64 j ∧ ∃ cur v es, GM L W wy k s gr gt cur kd v v es ∧ es.length = j ∧ Hid (D = eA es (n - j) cur)) (fun i _ => n - (intOf i).toNat)
        case atStart => exact ⟨0, Nat.zero_le _, rfl, u, _, [], HG4.out, rfl, HD⟩
        case round =>
          clear HG4 HD
          obtain ⟨j, hj, rfl, cur, v, es, hG, hel, HD⟩ := hrel
          have HG := Lib.hid hG
          have HEL := Lib.hid hel
          clear hG hel
          by_cases hlt : j < n
          · have i1 : (j : Int) < (n : Nat) := by omega
            have HJ := Lib.hid hlt
            obtain ⟨jj, hjj⟩ : ∃ jj, jj = j + 1 := ⟨_, rfl⟩
            have HW := Lib.hid (wrap_n j jj hjj (by have := HN.out; omega))
            have HJJ := Lib.hid hjj
            have hD := HD.out
            rw [show n - j = (n - (j + 1)) + 1 by omega] at hD
            have HD2 := Lib.hid hD
            have HS := Lib.hid (rsmall_any k s cur 12 wr HG.out.rr HG.out.rd (by omega))
            clear hj hlt hjj hD
            cases hv : smallP 12 cur with
            | error x =>
              rw [hv] at HS
              have HE2 := Lib.hid (show getP bs = .error x by
                have := HE3.out
                rw [HD2.out, eA_err hv] at this
                rw [← HRR.out]; exact this)
              clear hv
              go_wp2_with (go_at_call 56; refine HS.out.mono ?_; rintro e w9 ⟨hO, rfl, hM⟩; have HO := Lib.hid (HG.out.off.trans hO); have HM := Lib.hid hM; clear hM hO HS)
              exact ⟨rfl, endG_bad HE2.out HO.out HM.out⟩
            | ok z =>
              obtain ⟨a, t⟩ := z
              rw [hv] at HS
              have HV := Lib.hid hv
              clear hv
              go_upto_region 10 with (go_at_call 56; refine HS.out.mono ?_; rintro e w5 ⟨hO, rfl, hM⟩; have HG5 := Lib.hid (HG.out.read hO hM); clear hM hO HS)
              clear i1 HG
              have HS := Lib.hid (rsmall_any k s t 12 w5 HG5.out.rr HG5.out.rd (by omega))
              cases hv2 : smallP 12 t with
              | error x =>
                rw [hv2] at HS
                have HE2 := Lib.hid (show getP bs = .error x by
                  have := HE3.out
                  rw [HD2.out, eA_err2 HV.out hv2] at this
                  rw [← HRR.out]; exact this)
                clear hv2
                go_wp2_with (go_at_call 56; refine HS.out.mono ?_; rintro e w9 ⟨hO, rfl, hM⟩; have HO := Lib.hid (HG5.out.off.trans hO); have HM := Lib.hid hM; clear hM hO HS)
                exact ⟨rfl, endG_bad HE2.out HO.out HM.out⟩
              | ok z2 =>
                obtain ⟨b, u2⟩ := z2
                rw [hv2] at HS
                have HD3 := Lib.hid (show D = eA (es ++ [(((a : Nat) : Int), ((b : Nat) : Int))]) (n - (j + 1)) u2 by rw [HD2.out, eA_ok HV.out hv2])
                clear hv2 HD2 HD HV
                go_upto_region 11 with (go_at_call 56; refine HS.out.mono ?_; rintro e w6 ⟨hO, rfl, hM⟩; have HG6 := Lib.hid (HG5.out.read hO hM); clear hM hO HS)
                clear HG5
                have c12 : w6.cell? ⟨gt, 12, none⟩ = some v := by rw [HG6.out.bt.cell, List.getElem?_toArray, List.getElem?_append_right (by rw [kl_len]; exact Nat.le_refl _), kl_len]; rfl
                obtain ⟨Ae, ce, hve⟩ := OffR.shape HG6.out.re
                subst hve
                obtain ⟨le, hle⟩ : ∃ le, le = es.length := ⟨_, rfl⟩
                rw [← hle] at HG6
                rw [← hle] at c12
                have HLE := Lib.hid (show le = es.length ∧ es.length ≤ 11 from ⟨hle, by have := HEL.out; have := HJ.out; have := HN.out; omega⟩)
                have hb7 : Below w6.heap.size w6 (w6.alloc (.cells #[.int .i64 (a : Nat), .int .i64 (b : Nat)] 95)) := (Below.refl w6.heap.size w6).alloc (Nat.le_refl _) _
                have HG7 := Lib.hid (HG6.out.below hb7)
                have HX7 := Lib.hid (show Blk (w6.alloc (.cells #[.int .i64 (a : Nat), .int .i64 (b : Nat)] 95)) w6.heap.size 95 (ec (((a : Nat) : Int), ((b : Nat) : Int))).toArray from Blk.new w6 95 #[.int .i64 (a : Nat), .int .i64 (b : Nat)])
                have HZ7 := Lib.hid (Nat.le_trans HG6.out.off.size hb7.size)
                clear hb7 hle
                go_upto_region 12 with (refine wpList_plain rfl fun K hK => ?_; refine wp_app_edge _ _ _ rfl W.heap.size (.slice Ae le ce) es rfl HG7.out.re w6.heap.size 1 (((a : Nat) : Int), ((b : Nat) : Int)) rfl HX7.out (by have := HLE.out; omega) HZ7.out ?_; intro v9 w9 hN9 hg9 hloc9; have HG9 := Lib.hid (HG7.out.grow hN9 hg9); have c9 : w9.cell? ⟨gt, 12, none⟩ = some (.slice Ae le ce) := (by rw [HG9.out.bt.cell, List.getElem?_toArray, List.getElem?_append_right (by rw [kl_len]; exact Nat.le_refl _), kl_len]; rfl); have z9 := HG9.out.bt.frozen 12; have HG10 := Lib.hid (HG9.out.fill (kl_set12 kd (.slice Ae le ce) v9)); obtain ⟨A9, cp9, hv9⟩ := OffR.shape hN9; obtain ⟨l9, hl9⟩ : ∃ l9, l9 = (es ++ [(((a : Nat) : Int), ((b : Nat) : Int))]).length := ⟨_, rfl⟩; rw [← hl9] at hv9; clear hl9; subst hv9; refine hK _ _ ?_; clear hK K hN9 hg9 hloc9 c12; (try simp only [Act.put, List.setIfInBounds_toArray, List.set_cons_zero, List.set_cons_succ]))
                clear c9 z9
                go_wp2_with fail
                rw [HW.out]
                go_roundw
                case rel => exact ⟨jj, by have := HJ.out; have := HJJ.out; omega, rfl, u2, _, es ++ [(((a : Nat) : Int), ((b : Nat) : Int))], HG10.out, by rw [List.length_append, HEL.out, HJJ.out]; rfl, by rw [HJJ.out]; exact HD3⟩
                case measure => have := HJ.out; have := HJJ.out; simp [intOf]; omega
          · have i1 : ¬ (j : Int) < (n : Nat) := by omega
            have hjn : j = n := by omega
            subst hjn
            have hD := HD.out
            rw [Nat.sub_self] at hD
            have hE := HE3.out
            rw [hD] at hE
            dsimp only [eA] at hE
            have HE4 := Lib.hid (show getP bs = .ok ((kd, es), cur) by rw [← HRR.out]; exact hE)
            clear hj hlt hD hE HD HE3
            obtain ⟨Ae, ce, hve⟩ := OffR.shape HG.out.re
            subst hve
            obtain ⟨t, ht⟩ : ∃ t : Tv, t = ⟨kd, es, Ae, ce⟩ := ⟨_, rfl⟩
            have HT := Lib.hid ht
            have hbx : Blk wr gt 25 t.cells.toArray := by
              have h := HG.out.bt
              rw [ht]
              unfold Tv.cells
              exact h
            have HRO := Lib.hid (show RowsOf ec 2 wr t.A t.es by rw [ht]; exact Eds.rows HG.out.re)
            have HTL := Lib.hid (show t.es.length ≤ 1000000 by rw [ht]; have := HEL.out; have := HN.out; show es.length ≤ _; omega)
            obtain ⟨rb, hrb⟩ := right_ex t
            have HRB := Lib.hid hrb
            have HRT := Lib.hid (right_is wr HRO.out HTL.out hrb)
            have HBX := Lib.hid hbx
            have hr0 : wr.rangeAt gt 0 t.cells := hbx.range
            clear hrb hbx ht
            cases rb with
            | false =>
              go_wp2_with (first | (refine wpList_load_mid rfl 25 _ rfl _ _ rfl t.cells _ hr0 Try.underlying25 rfl (tvinfo t) ?_) | (go_at_call 21; refine HRT.out.mono ?_; rintro e w5 ⟨rfl, hb⟩; have HG5 := Lib.hid (HG.out.below hb); clear hb HRT) | (go_at_call 57; refine (rmust_not k s cur _ HG5.out.rr HG5.out.rd).mono ?_; rintro e w6 ⟨rfl, hM, hO⟩; have HM := Lib.hid hM; have HO := Lib.hid (HG5.out.off.trans hO); clear hM hO))
              refine ⟨rfl, ?_⟩
              unfold EndG
              rw [HE4.out]
              refine ⟨HO.out, .inr ⟨right_irrel.1 (by rw [← HT.out]; exact HRB.out), rfl, HM.out⟩⟩
            | true =>
              go_upto_region 14 with (first | (refine wpList_load_mid rfl 25 _ rfl _ _ rfl t.cells _ hr0 Try.underlying25 rfl (tvinfo t) ?_) | (go_at_call 21; refine HRT.out.mono ?_; rintro e w5 ⟨rfl, hb⟩; have HG5 := Lib.hid (HG.out.below hb); have HBX5 := Lib.hid (HBX.out.next hb); clear hb HRT) | (go_at_call 57; refine (rmust_yes k s cur _ HG5.out.rr HG5.out.rd).mono ?_; rintro e w6 ⟨rfl, hw6⟩; obtain rfl := hw6))
              clear hr0
              have hb6 := HBX5.out
              have hr0 : w5.rangeAt gt 0 t.cells := hb6.range
              have HBR := Lib.hid HG5.out.br
              have HGR := Lib.hid (And.intro HG5.out.hr HG5.out.ne)
              go_wp2_with (first | (refine wpList_load_mid rfl 25 _ rfl _ _ rfl t.cells _ hr0 Try.underlying25 rfl (tvinfo t) ?_) | (refine wpList_store_blk rfl 25 _ _ rfl gr 25 _ t.cells.toArray rfl rfl HBR.out (tvinfoA t) (tv_siz t) (tv_all t) ?_; intro hY))
              refine bodyPost_row (t := 25) t.cells.toArray rfl rfl rfl Try.underlying25 rfl (tvinfoA t) hY ?_
              have hG := HG5.out
              have hsr : ∀ b, b ≠ gr → (w5.setRow gr t.cells.toArray).heap[b]? = w5.heap[b]? := fun b hb => setRow_other w5 gr b _ hb
              unfold EndG
              rw [HE4.out]
              have e1 := HT.out
              refine ⟨⟨hG.off.os, hG.off.tape, hG.off.output, by simpa using hG.off.size, fun b hb hs => (hsr b (by have := hG.hr; omega)).trans (hG.off.block b hb hs)⟩, .inl ⟨right_irrel.1 (by rw [← HT.out]; exact HRB.out), rdb_keep hG.rd (hsr s (by have := hG.hr; have := hG.hs; omega)) (fun b hb _ _ => hsr b (by have := hG.hr; have := hG.hL; omega)) (by simp), Ae, ce, by rw [e1], ?_, ?_⟩⟩
              · refine Eds.rows (n := es.length) (c := ce) (B := W.heap.size) (OffR.keep hG.re fun b e => hsr b fun e2 => eds_ne hG.re hG.br (by decide) (by subst e2; exact e.symm))
              · intro b o e
                subst e
                exact (OffR.lt hG.re b rfl).1
end Tr
end Go.Proofs.Ytopkfmamjlkjiaa

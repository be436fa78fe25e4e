/-
links: LinksApart.
-/
import Derived.Test.YtifoheodcbjapaaLs16
namespace Go.Proofs.Ytifoheodcbjapaa
open Go.RowKit
set_option linter.unusedSimpArgs false
set_option linter.unusedVariables false
namespace Ls
open Lk
theorem do_all {W : World} {b : Nat} {t : TypeId} {x : Do} (h : Blk W b t x.cells.toArray) :
    W.cell? ⟨b, 0, none⟩ = some (.int .i64 x.k) ∧ W.cell? ⟨b, 1, none⟩ = some (.int .i64 x.n) ∧ W.cell? ⟨b, 2, none⟩ = some (.int .u64 (x.q : Nat)) ∧ W.cell? ⟨b, 3, none⟩ = some (.slice x.A x.bs.length x.c) :=
  ⟨h.cell 0, h.cell 1, h.cell 2, h.cell 3⟩
theorem do_one (x : Do) : x.cells.toArray.all (·.oneCell') = true := by
  have := Pk.pc_one x.x
  unfold Do.cells
  unfold Pk.Pc.cells at *
  simp [Value.oneCell']
theorem doinfoA (x : Do) : (Try.prog.info? 42).map (·.size) = some x.cells.toArray.size := by rw [List.size_toArray, do_len]; kernel_rfl
theorem do_siz (x : Do) : (9 : Nat) = x.cells.toArray.size := by rw [List.size_toArray, do_len]
def zdo : Array Value := #[.int .i64 0, .int .i64 0, .int .u64 0, .slice none 0 0, .bool false, .int .i64 0, .int .i64 0, .int .u64 0, .slice none 0 0]
set_option maxHeartbeats 8000000 in
set_option maxRecDepth 20000 in
theorem apart_walk (W : World) (A1 : Option Addr) (n1 c1 : Nat) (l1 : List Do) (hl1 : l1.length = n1) (hr1 : RowsOf Do.cells 9 W A1 l1) (ho1 : ∀ x ∈ l1, x.Ok W) :
    Calls Try.prog 4 #[.slice A1 n1 c1] W fun e W' => e = .returned (.bool true) ∧ Below W.heap.size W W' := by
  have HN := Lib.hid ((Many.zero W (fun _ => False) 12 (fun _ => 0) (fun _ => S0)).new (fun _ h => h.elim) (by decide) (by decide))
  have HL1 := Lib.hid hl1
  have HR1 := Lib.hid hr1
  have HO1 := Lib.hid ho1
  have HAL := Lib.hid alive_any
  clear hl1 hr1 ho1
  go_enter Try.func4, Try.ntmps4
  go_upto_region 4 with (first | (go_at_call 6; refine HN.out.mono ?_; rintro e w1 ⟨rfl, h, hb⟩; have H1 := Lib.hid h; clear h HN))
  go_upto_region 6 with fail
  obtain ⟨w2, hw2⟩ : ∃ w2, w2 = w1.alloc (.cells #[.pointer none, .pointer none, .pointer none] 68) := ⟨_, rfl⟩
  obtain ⟨ga, hga⟩ : ∃ ga, ga = w1.heap.size := ⟨_, rfl⟩
  have hb2 : Below w1.heap.size w1 w2 := by rw [hw2]; exact (Below.refl _ _).alloc (Nat.le_refl _) _
  have hB2 : Blk w2 ga 68 (ptrs (fun _ => W.heap.size) 0).toArray := by rw [hw2, hga]; exact Blk.new _ _ _
  have H2 := Lib.hid (H1.out.turnQ hb2 (Q' := fun k => k = ga) (fun k hk => by subst hk; exact ⟨by omega, hB2.lt⟩))
  rw [← hw2, ← hga]
  have HB2 := Lib.hid hB2
  have HGA := Lib.hid (show W.heap.size ≤ ga by rw [hga]; exact H1.out.b.size)
  clear hw2 hga hb2 hB2 H1
  go_loopw [6] (fun i wr => ∃ j : Nat, j ≤ 3 ∧ i = .int .i64 j ∧ ∃ d, d 0 = W.heap.size ∧ Many (j + 1) W (fun k => k = ga) wr 12 d (fun _ => S0) ∧ Blk wr ga 68 (ptrs d j).toArray) (fun i _ => 3 - (intOf i).toNat)
  case atStart => exact ⟨0, by omega, rfl, updD (fun _ => 0) 0 W.heap.size, rfl, by have h := H2.out; rw [updM_z] at h; exact h, HB2.out⟩
  case round =>
    clear H2 HB2
    obtain ⟨j, hj, rfl, d, hd, hM, hB⟩ := hrel
    have HD := Lib.hid hd
    have HM := Lib.hid hM
    have HB := Lib.hid hB
    clear hd hM hB
    by_cases hlt : j < 3
    · have i1 : (j : Int) < 3 := by omega
      have i3 : ¬ (j : Int) < 0 := by omega
      obtain ⟨jj, hjj⟩ : ∃ jj, jj = j + 1 := ⟨_, rfl⟩
      have HWJ := Lib.hid (Nd.wrap_n j jj hjj (by omega))
      have HJ := Lib.hid (And.intro hjj hlt)
      have HN := Lib.hid (HM.out.new (fun k hk => by subst hk; exact HB.out.lt) (by decide) (by decide))
      clear hj hlt hjj
      go_upto_region 8 with fail
      have hcx := HB.out.cell j
      rw [List.getElem?_toArray, ptrs_get d j HJ.out.2] at hcx
      obtain ⟨pv, hpv⟩ : ∃ pv, pv = ptr d j j := ⟨_, rfl⟩
      rw [← hpv] at hcx
      clear hpv
      go_upto_region 9 with (first | (go_at_call 6; refine HN.out.mono ?_; rintro e w3 ⟨rfl, h, hb⟩; have HM3 := Lib.hid h; have HB3 := Lib.hid (HB.out.next hb); have hcx := cell_next hb hcx; have hfx := HB3.out.frozen j; clear h hb HN HM))
      have hBn := HB3.out.setCell j (.pointer (some ⟨wr.heap.size, 0, none⟩))
      rw [ptrs_set d HJ.out.2] at hBn
      have HMn := HM3.out.set (x := ga) (i := j) (v := .pointer (some ⟨wr.heap.size, 0, none⟩)) rfl HGA.out
      have hcn := hBn.cell j
      rw [List.getElem?_toArray, ptrs_get _ _ HJ.out.2, show ptr (updD d (j + 1) wr.heap.size) (j + 1) j = .pointer (some ⟨wr.heap.size, 0, none⟩) by unfold ptr updD; rw [if_pos (by omega), if_pos rfl]] at hcn
      obtain ⟨w4, hw4⟩ : ∃ w4, w4 = w3.setCell ⟨ga, j, none⟩ (.pointer (some ⟨wr.heap.size, 0, none⟩)) := ⟨_, rfl⟩
      rw [← hw4] at hBn HMn hcn ⊢
      have HBN := Lib.hid hBn
      have HMN := Lib.hid HMn
      clear hw4 hBn HMn HM3 HB3 hcx hfx
      go_wp2_with fail
      (try rw [HWJ.out])
      go_roundw
      case rel => exact ⟨jj, by have := HJ.out; omega, (by rw [HJ.out.1]; rfl), updD d (j + 1) wr.heap.size, by unfold updD; rw [if_neg (by omega)]; exact HD.out, by have h := HMN.out; rw [updM_z] at h; rw [HJ.out.1]; exact h, by rw [HJ.out.1]; exact HBN.out⟩
      case measure => have := HJ.out; simp [intOf]; omega
    · obtain rfl : j = 3 := by omega
      have i1 : ¬ ((3 : Nat) : Int) < 3 := by omega
      clear hlt hj
      have hag : Agree (fun _ => S0) := ⟨fun _ _ => rfl, fun _ _ => rfl⟩
      have HAG := Lib.hid hag
      clear hag
      go_upto_region 12 with fail
      go_loopw [7] (fun i wy => ∃ j : Nat, j ≤ 80 ∧ i = .int .i64 j ∧ ∃ S, Many 4 W (fun k => k = ga) wy 12 d S ∧ Agree S ∧ Blk wy ga 68 (ptrs d 3).toArray) (fun i _ => 80 - (intOf i).toNat)
      case atStart => exact ⟨0, by omega, rfl, _, HM.out, HAG.out, HB.out⟩
      case round =>
        clear HM HB HAG
        obtain ⟨j, hj, rfl, S, hM, hA, hB⟩ := hrel
        have HM := Lib.hid hM
        have HA := Lib.hid hA
        have HB := Lib.hid hB
        clear hM hA hB
        by_cases hjl : j < n1 ∧ j < 80
        · obtain ⟨x, hx⟩ : ∃ x, l1[j]? = some x := ⟨_, List.getElem?_eq_getElem (by rw [HL1.out]; exact hjl.1)⟩
          have i1 : (j : Int) < (n1 : Nat) := by omega
          have i2 : (j : Int) < 80 := by omega
          have i3 : ¬ (j : Int) < 0 := by omega
          obtain ⟨b, o, rfl, hbl, hrx⟩ := do_row HR1.out HM.out.b hx
          have HX := Lib.hid (fun w (hb : Below W.heap.size W w) => (HO1.out x (List.mem_of_getElem? hx)).next hb)
          obtain ⟨jj, hjj⟩ : ∃ jj, jj = j + 1 := ⟨_, rfl⟩
          have HWJ := Lib.hid (Nd.wrap_n j jj hjj (by omega))
          have HJL := Lib.hid (And.intro hjj hjl)
          clear hx hjl hj hbl hjj
          go_upto_region 15 with (first | (refine wpList_load_mid rfl 42 _ rfl _ _ rfl x.cells _ hrx Try.underlying42 rfl (doinfo x) ?_) | (refine wpList_store_blk rfl 42 _ _ rfl wr.heap.size 42 _ x.cells.toArray rfl rfl (Blk.new wr _ _) (doinfoA x) (do_siz x) (do_one x) ?_; intro hY; rw [Wr.alloc_setRow]))
          clear hY
          obtain ⟨w3, hw3⟩ : ∃ w3, w3 = wr.alloc (.cells x.cells.toArray 42) := ⟨_, rfl⟩
          obtain ⟨bx, hbx⟩ : ∃ bx, bx = wr.heap.size := ⟨_, rfl⟩
          have hb3 : Below wr.heap.size wr w3 := by rw [hw3]; exact (Below.refl _ _).alloc (Nat.le_refl _) _
          have hB3 : Blk w3 bx 42 x.cells.toArray := by rw [hw3, hbx]; exact Blk.new _ _ _
          have HM3 := Lib.hid (HM.out.addQ hb3 (x := bx) ⟨by omega, hB3.lt⟩)
          have HG3 := Lib.hid (HB.out.next hb3)
          rw [← hw3, ← hbx]
          have HX3 := Lib.hid hB3
          have HGR := Lib.hid (great_any w3 x)
          clear hw3 hbx hb3 hB3 hrx i1 i2 i3 HM HB
          cases hg : greatB x with
          | true =>
            rw [hg] at HGR
            clear hg
            go_wp2_with (first | (refine wpList_load_blk rfl 42 _ rfl _ rfl 42 x.cells.toArray _ HX3.out Try.underlying42 rfl (doinfoA x) ?_) | (go_at_call 8; refine HGR.out.mono ?_; rintro e w4 ⟨rfl, hb⟩; have HB4 := Lib.hid hb; clear hb) | (go_at_call 7; refine (HAL.out _).mono ?_; rintro e w5 ⟨rfl, hb⟩; have HB5 := Lib.hid (HB4.out.trans (hb.mono HB4.out.size)); clear hb))
            go_ret
            exact ⟨rfl, HM3.out.b.trans (HB5.out.mono HM3.out.b.size)⟩
          | false =>
            rw [hg] at HGR
            clear hg
            go_upto_region 17 with (first | (refine wpList_load_blk rfl 42 _ rfl _ rfl 42 x.cells.toArray _ HX3.out Try.underlying42 rfl (doinfoA x) ?_) | (go_at_call 8; refine HGR.out.mono ?_; rintro e w4 ⟨rfl, hb⟩; have HM4 := Lib.hid (HM3.out.next hb); have HX4 := Lib.hid (HX3.out.next hb); have HG4 := Lib.hid (HG3.out.next hb); clear hb HGR HM3 HX3 HG3))
            obtain ⟨q0, q1, q2, q3⟩ := do_all HX4.out
            obtain ⟨nd, hnd⟩ : ∃ z, z = x.n := ⟨_, rfl⟩
            obtain ⟨kd, hkd⟩ : ∃ z, z = x.k := ⟨_, rfl⟩
            rw [← hnd] at q1
            rw [← hkd] at q0
            have HND := Lib.hid (And.intro hnd hkd)
            clear hnd hkd
            by_cases hok : (1 ≤ nd ∧ nd ≤ 3) ∧ 0 ≤ kd ∧ kd ≤ 1
            · obtain ⟨i, hi, hti, hnn, hw, hw2, hi1, hi0⟩ := isN_of (show isN nd = true from decide_eq_true (by omega))
              have t1 : ¬ nd < 1 := by omega
              have t2 : ¬ 3 < nd := by omega
              have t3 : ¬ 1 < kd := by omega
              have t4 : ¬ kd < 0 := by omega
              have hi3 : i < 3 := by omega
              have i5 : (i : Int) < 3 := by omega
              have i6 : ¬ (i : Int) < 0 := by omega
              have HI := Lib.hid (And.intro hi3 hti)
              have cga := HG4.out.cell i
              rw [List.getElem?_toArray, ptrs_get d 3 hi3, show ptr d 3 i = .pointer (some ⟨d (i + 1), 0, none⟩) by unfold ptr; rw [if_pos hi3]] at cga
              obtain ⟨di, hdi⟩ : ∃ di, di = d (i + 1) := ⟨_, rfl⟩
              rw [← hdi] at cga
              have HDI := Lib.hid hdi
              have HK01 := Lib.hid (show kd = 0 ∨ kd = 1 by omega)
              have HWI := Lib.hid hw
              clear hok hi hti hnn hw hw2 hi1 hi0 hi3 hdi
              go_upto_region 18 with fail
              clear t1 t2 t3 t4
              have hw := HWI.out
              rcases HK01.out with rfl | rfl
              · have hs1 := HM4.out.send (i := 0) (by omega) nd x.A x.bs.length x.c x.bs rfl ((HX.out w4 HM4.out.b).src) (HX.out w4 HM4.out.b).h256
                rw [HD.out] at hs1
                obtain ⟨sn, hsn⟩ : ∃ z, z = sendN 12 (S 0) nd x.bs.length := ⟨_, rfl⟩
                obtain ⟨se, hse⟩ : ∃ z, z = sendE 12 (S 0) nd x.bs.length := ⟨_, rfl⟩
                obtain ⟨a, ha⟩ : ∃ z, z = send 12 (S 0) nd x.bs := ⟨_, rfl⟩
                obtain ⟨bb, hbb⟩ : ∃ z, z = send 12 (S (i + 1)) nd x.bs := ⟨_, rfl⟩
                rw [← hsn, ← hse, ← ha] at hs1
                have HS1 := Lib.hid hs1
                have HAB := Lib.hid (show a i = bb i ∧ ∀ k, k ≠ i → a k = S 0 k from ⟨by rw [ha, hbb]; exact send_same (HA.out.same i HI.out.1) HI.out.2 12 x.bs, fun k hk => by rw [ha]; exact send_other HI.out.2 12 x.bs hk⟩)
                have HEQ := Lib.hid (show sendN 12 (S (i + 1)) nd x.bs.length = sn ∧ sendE 12 (S (i + 1)) nd x.bs.length = se ∧ send 12 (S (i + 1)) nd x.bs = bb from ⟨by rw [hsn]; exact (sendN_same (HA.out.same i HI.out.1) HI.out.2 12 _).symm, by rw [hse]; exact (sendE_same (HA.out.same i HI.out.1) HI.out.2 12 _).symm, hbb.symm⟩)
                clear hs1 hsn hse ha hbb
                go_upto_region 20 with fail
                go_upto_region 21 with (go_at_call 11; refine HS1.out.mono ?_; rintro e w5 ⟨rfl, h, hk⟩; have HM5 := Lib.hid h; have q0 := (World.cell?_of_block (a := ⟨bx, 0, none⟩) (hk bx (Or.inr rfl))).trans q0; have q1 := (World.cell?_of_block (a := ⟨bx, 1, none⟩) (hk bx (Or.inr rfl))).trans q1; have q2 := (World.cell?_of_block (a := ⟨bx, 2, none⟩) (hk bx (Or.inr rfl))).trans q2; have q3 := (World.cell?_of_block (a := ⟨bx, 3, none⟩) (hk bx (Or.inr rfl))).trans q3; have HG5 := Lib.hid (show Blk w5 ga 68 (ptrs d 3).toArray from (hk ga (Or.inl rfl)).trans HG4.out); clear h hk HS1)
                have hs2 := HM5.out.send (i := i + 1) (by have := HI.out.1; omega) nd x.A x.bs.length x.c x.bs rfl ((HX.out w5 HM5.out.b).src) (HX.out w5 HM5.out.b).h256
                rw [show updM S 0 a (i + 1) = S (i + 1) by unfold updM; rw [if_neg (by omega)], HEQ.out.1, HEQ.out.2.1, HEQ.out.2.2, ← HDI.out] at hs2
                have HS2 := Lib.hid hs2
                clear hs2
                go_wp2_with (go_at_call 11; refine HS2.out.mono ?_; rintro e w6 ⟨rfl, h, hk⟩; have HM6 := Lib.hid h; have HG6 := Lib.hid (show Blk w6 ga 68 (ptrs d 3).toArray from (hk ga (Or.inl rfl)).trans HG5.out); clear h hk HS2 q0 q1 q2 q3)
                rw [HWJ.out]
                go_roundw
                case rel => exact ⟨jj, by have := HJL.out; omega, rfl, _, HM6.out.subQ (fun k hk => Or.inl hk), HA.out.step HI.out.1 HAB.out.1 HAB.out.2, HG6.out⟩
                case measure => have := HJL.out; simp [intOf]; omega
              · have hs1 := HM4.out.acked (i := 0) (by omega) nd x.q
                rw [HD.out] at hs1
                obtain ⟨sn, hsn⟩ : ∃ z, z = ackR 12 (S 0) nd x.q := ⟨_, rfl⟩
                obtain ⟨se, hse⟩ : ∃ z, z = ackE 12 (S 0) nd x.q := ⟨_, rfl⟩
                obtain ⟨a, ha⟩ : ∃ z, z = ack 12 (S 0) nd x.q := ⟨_, rfl⟩
                obtain ⟨bb, hbb⟩ : ∃ z, z = ack 12 (S (i + 1)) nd x.q := ⟨_, rfl⟩
                rw [← hsn, ← hse, ← ha] at hs1
                have HS1 := Lib.hid hs1
                have HAB := Lib.hid (show a i = bb i ∧ ∀ k, k ≠ i → a k = S 0 k from ⟨by rw [ha, hbb]; exact ack_same (HA.out.same i HI.out.1) HI.out.2 12 x.q, fun k hk => by rw [ha]; exact ack_other HI.out.2 12 x.q hk⟩)
                have HEQ := Lib.hid (show ackR 12 (S (i + 1)) nd x.q = sn ∧ ackE 12 (S (i + 1)) nd x.q = se ∧ ack 12 (S (i + 1)) nd x.q = bb from ⟨by rw [hsn]; exact (ackR_same (HA.out.same i HI.out.1) HI.out.2 12 _).symm, by rw [hse]; exact (ackE_same (HA.out.same i HI.out.1) HI.out.2 12 _).symm, hbb.symm⟩)
                clear hs1 hsn hse ha hbb
                go_upto_region 24 with fail
                go_upto_region 25 with (go_at_call 13; refine HS1.out.mono ?_; rintro e w5 ⟨rfl, h, hk⟩; have HM5 := Lib.hid h; have q0 := (World.cell?_of_block (a := ⟨bx, 0, none⟩) (hk bx (Or.inr rfl))).trans q0; have q1 := (World.cell?_of_block (a := ⟨bx, 1, none⟩) (hk bx (Or.inr rfl))).trans q1; have q2 := (World.cell?_of_block (a := ⟨bx, 2, none⟩) (hk bx (Or.inr rfl))).trans q2; have q3 := (World.cell?_of_block (a := ⟨bx, 3, none⟩) (hk bx (Or.inr rfl))).trans q3; have HG5 := Lib.hid (show Blk w5 ga 68 (ptrs d 3).toArray from (hk ga (Or.inl rfl)).trans HG4.out); clear h hk HS1)
                have hs2 := HM5.out.acked (i := i + 1) (by have := HI.out.1; omega) nd x.q
                rw [show updM S 0 a (i + 1) = S (i + 1) by unfold updM; rw [if_neg (by omega)], HEQ.out.1, HEQ.out.2.1, HEQ.out.2.2, ← HDI.out] at hs2
                have HS2 := Lib.hid hs2
                clear hs2
                go_wp2_with (go_at_call 13; refine HS2.out.mono ?_; rintro e w6 ⟨rfl, h, hk⟩; have HM6 := Lib.hid h; have HG6 := Lib.hid (show Blk w6 ga 68 (ptrs d 3).toArray from (hk ga (Or.inl rfl)).trans HG5.out); clear h hk HS2 q0 q1 q2 q3)
                rw [HWJ.out]
                go_roundw
                case rel => exact ⟨jj, by have := HJL.out; omega, rfl, _, HM6.out.subQ (fun k hk => Or.inl hk), HA.out.step HI.out.1 HAB.out.1 HAB.out.2, HG6.out⟩
                case measure => have := HJL.out; simp [intOf]; omega
            · have hor : nd < 1 ∨ (¬ nd < 1 ∧ 3 < nd) ∨ (¬ nd < 1 ∧ ¬ 3 < nd ∧ 1 < kd) ∨ (¬ nd < 1 ∧ ¬ 3 < nd ∧ ¬ 1 < kd ∧ kd < 0) := by omega
              clear hok
              rcases hor with t1 | ⟨t1, t2⟩ | ⟨t1, t2, t3⟩ | ⟨t1, t2, t3, t4⟩
              all_goals
                go_wp2_with fail
                rw [HWJ.out]
                go_roundw
                case rel => exact ⟨jj, by have := HJL.out; omega, rfl, S, HM4.out.subQ (fun k hk => Or.inl hk), HA.out, HG4.out⟩
                case measure => have := HJL.out; simp [intOf]; omega
        · have hor : ¬ (j : Int) < (n1 : Nat) ∨ ((j : Int) < (n1 : Nat) ∧ ¬ (j : Int) < 80) := by omega
          clear hjl hj
          obtain ⟨nn, hnn⟩ : ∃ nn : Nat → Nat, nn = qsum (S 0) := ⟨_, rfl⟩
          have HNN := Lib.hid (show (∀ i, nn (i + 1) = nn i + qlen 12 (S 0) (i + 1)) ∧ nn 3 = (pkts 12 (S 0)).length ∧ nn 0 = 0 from ⟨fun i => by rw [hnn]; rfl, by rw [hnn]; exact qsum_3 HA.out.none, by rw [hnn]; rfl⟩)
          clear hnn
          rcases hor with i1 | ⟨i1, i2⟩
          all_goals
            go_upto_region 30 with fail
            (try clear i1)
            (try clear i2)
            go_loopw [18, 19] (fun v i wz => ∃ j : Nat, j ≤ 3 ∧ i = .int .i64 j ∧ v = .int .i64 (nn j : Nat) ∧ nn j ≤ 250 * j ∧ Many 4 W (fun k => k = ga) wz 12 d S ∧ Blk wz ga 68 (ptrs d 3).toArray) (fun _ i _ => 3 - (intOf i).toNat)
            case atStart => exact ⟨0, by omega, rfl, (by rw [HNN.out.2.2]; rfl), (by rw [HNN.out.2.2]; exact Nat.le_refl 0), HM.out, HB.out⟩
            case round =>
              clear HM HB
              obtain ⟨i, hi, rfl, rfl, hle, hM, hB⟩ := hrel
              have HM := Lib.hid hM
              have HB := Lib.hid hB
              have HLE := Lib.hid hle
              obtain ⟨ni, hni⟩ : ∃ ni, ni = nn i := ⟨_, rfl⟩
              (try rw [← hni])
              have HNI := Lib.hid hni
              clear hM hB hle hni
              by_cases hlt : i < 3
              · have i1 : (i : Int) < 3 := by omega
                have i3 : ¬ (i : Int) < 0 := by omega
                obtain ⟨ii, hii⟩ : ∃ ii, ii = i + 1 := ⟨_, rfl⟩
                have HWI := Lib.hid (Nd.wrap_n i ii hii (by omega))
                have ew : IntKind.i64.wrap ((i : Int) + 1) = (ii : Nat) := by rw [IntKind.wrap_i64]; omega
                have HI := Lib.hid (And.intro hii hlt)
                have cga := HB.out.cell i
                rw [List.getElem?_toArray, ptrs_get d 3 hlt, show ptr d 3 i = .pointer (some ⟨d (i + 1), 0, none⟩) by unfold ptr; rw [if_pos hlt]] at cga
                obtain ⟨di, hdi⟩ : ∃ di, di = d (i + 1) := ⟨_, rfl⟩
                rw [← hdi] at cga
                have hq1 := (HM.out.next (Below.refl wr.heap.size wr).drew).queue (i := 0) (by omega) ((ii : Nat) : Int)
                rw [HD.out] at hq1
                have HQ1 := Lib.hid hq1
                have HQ2 := Lib.hid (fun w (hb : Below wr.heap.size wr w) => (HM.out.next hb).queue (i := i + 1) (by omega) ((ii : Nat) : Int))
                rw [← hdi, ← qS_same (HA.out.same i hlt) (show ((ii : Nat) : Int).toNat - 1 = i by omega) 12] at HQ2
                clear hq1 hi hlt hii hdi
                go_upto_region 32 with fail
                (try simp only [Act.put, List.setIfInBounds_toArray, List.set_cons_zero, List.set_cons_succ])
                refine wp_region_tree (S := (fun w' => w'.cell? ⟨ga, i, none⟩ = some (.pointer (some ⟨di, 0, none⟩)))) (.take 0 (.take 1 (.take 2 (.take 4 (.take 5 (.take 6 (.take 7 (.take 8 (.one 3 (.one 9 (.take 10 (.take 11 .nil)))))))))))) 9999 (by kernel_rfl) (by kernel_rfl) (by kernel_rfl) (by kernel_rfl) (by kernel_rfl) (fun _ _ d _ _ h => by cases d <;> exact h) cga (fun hHeld => ?_); simp only [Tree.map, List.getElem?_toArray, List.getElem?_cons_zero, List.getElem?_cons_succ]
                (repeat (first | (refine wpTree.take (v := undef) (Or.inr ⟨by rfl, rfl⟩) ?_; simp only [Act.put, List.setIfInBounds_toArray, List.set_cons_zero, List.set_cons_succ]) | (refine wpTree.take (v := ?_) (Or.inl ⟨by rfl, ?_⟩) ?_; rotate_left; (focus (intro _ hS; (try dsimp only at hS); go_split_ands; (try subst hS); go_simp; (try (with_reducible rfl)); done)); simp only [Act.put, List.setIfInBounds_toArray, List.set_cons_zero, List.set_cons_succ])))
                clear ew
                refine wpTree.one (fun K hK => ?_)
                go_simp
                go_at_call 18
                refine HQ1.out.mono ?_
                rintro e w5 ⟨hb5, A5, c5, M5, rfl, -, hr5, ha5, ht5, hl5, -, hbg, hs5⟩
                obtain ⟨m5, hm5⟩ : ∃ m5, m5 = M5.length := ⟨_, rfl⟩
                rw [← hm5]
                have HM5L := Lib.hid hm5
                clear hm5
                have hb05 : Below wr.heap.size wr w5 := (Below.refl wr.heap.size wr).drew.trans hb5
                refine hK.out _ _ (cell_next hb05 cga) (fun _ => ?_)
                clear hK K hHeld
                (try simp only [Act.put, List.setIfInBounds_toArray, List.set_cons_zero, List.set_cons_succ])
                refine wpTree.one (fun K hK => ?_)
                go_simp
                go_at_call 18
                refine (HQ2.out w5 hb05).mono ?_
                rintro e w6 ⟨hb6, A6, c6, M6, rfl, -, hr6, ha6, ht6, hl6, -, -, hs6⟩
                have h56 : M6.length = M5.length := by have h1 := congrArg List.length ht5; have h2 := congrArg List.length ht6; rw [List.length_map] at h1 h2; omega
                rw [show M6.length = m5 by rw [HM5L.out, h56]]
                have hb06 : Below wr.heap.size wr w6 := hb05.trans (hb6.mono hb05.size)
                refine hK.out _ _ (cell_next hb06 cga) (fun _ => ?_)
                clear hK K
                (try simp only [Act.put, List.setIfInBounds_toArray, List.set_cons_zero, List.set_cons_succ])
                (repeat (first | (refine wpTree.take (v := undef) (Or.inr ⟨by rfl, rfl⟩) ?_; simp only [Act.put, List.setIfInBounds_toArray, List.set_cons_zero, List.set_cons_succ]) | (refine wpTree.take (v := ?_) (Or.inl ⟨by rfl, ?_⟩) ?_; rotate_left; (focus (intro _ hS; (try dsimp only at hS); go_split_ands; (try subst hS); go_simp; (try (with_reducible rfl)); done)); simp only [Act.put, List.setIfInBounds_toArray, List.set_cons_zero, List.set_cons_succ])))
                refine wpTree.done ?_
                have HQL := Lib.hid (show m5 = qlen 12 (S 0) ii ∧ m5 ≤ 250 from ⟨by rw [HM5L.out]; unfold qlen; rw [← ht5, List.length_map], by rw [HM5L.out]; exact hl5⟩)
                have HPR := Lib.hid (show ∀ w, Below w6.heap.size w6 w → ∀ k, k < m5 → ∃ x5 x6 g5 o5 g6 o6, A5 = some ⟨g5, o5, none⟩ ∧ A6 = some ⟨g6, o6, none⟩ ∧ w.rangeAt g5 (o5 + k * 2) (It.cells x5) ∧ w.rangeAt g6 (o6 + k * 2) (It.cells x6) ∧ x5.q = x6.q ∧ x5.bs = x6.bs ∧ Src w x5.A x5.bs.length (u8s x5.bs) ∧ Src w x6.A x6.bs.length (u8s x6.bs) ∧ (∀ y ∈ x5.bs, y < 256) from fun w hb k hk => by
                  have hm5 := HM5L.out
                  obtain ⟨x5, hx5⟩ : ∃ x, M5[k]? = some x := ⟨_, List.getElem?_eq_getElem (by omega)⟩
                  obtain ⟨x6, hx6⟩ : ∃ x, M6[k]? = some x := ⟨_, List.getElem?_eq_getElem (by omega)⟩
                  have hb5w : Below w5.heap.size w5 w := hb6.trans (hb.mono hb6.size)
                  obtain ⟨g5, o5, e5, hr5'⟩ := row_item (RowI.keep hr5 (W' := w) (G := fun _ => True) fun k hk => ⟨trivial, hb5w.block k hk.2⟩) hx5
                  obtain ⟨g6, o6, e6, hr6'⟩ := row_item (RowI.keep hr6 (W' := w) (G := fun _ => True) fun k hk => ⟨trivial, hb.block k hk.2⟩) hx6
                  have hbs : x5.bs = x6.bs := by
                    have h1 : (M5.map It.bs)[k]? = (M6.map It.bs)[k]? := by rw [ht5, ht6]
                    rw [List.getElem?_map, List.getElem?_map, hx5, hx6] at h1
                    simpa using h1
                  have hqq : x5.q = x6.q := by have h1 := hs5 k x5 hx5; have h2 := hs6 k x6 hx6; omega
                  have a5 := (ha5 x5 (List.mem_of_getElem? hx5)).keep (W' := w) (G := fun _ => True) (fun k hk => ⟨trivial, hb5w.block k hk.2⟩)
                  have a6 := (ha6 x6 (List.mem_of_getElem? hx6)).keep (W' := w) (G := fun _ => True) (fun k hk => ⟨trivial, hb.block k hk.2⟩)
                  exact ⟨x5, x6, g5, o5, g6, o6, e5, e6, hr5', hr6', hqq, hbs, a5.src, a6.src, a5.1⟩)
                have HMN := Lib.hid (HM.out.next hb06)
                have HBN := Lib.hid (HB.out.next hb06)
                clear hb5 hr5 ha5 ht5 hl5 hbg hs5 hb05 hb6 hr6 ha6 ht6 hl6 hs6 h56 hb06 HQ1 HQ2 HM HB cga i1 i3
                go_upto_region 36 with fail
                go_loopw [22] (fun i wy => ∃ k : Nat, k ≤ m5 ∧ i = .int .i64 k ∧ Below w6.heap.size w6 wy) (fun i _ => m5 - (intOf i).toNat)
                case atStart => exact ⟨0, Nat.zero_le _, rfl, Below.refl _ _⟩
                case round =>
                  obtain ⟨k, hk, rfl, hb⟩ := hrel
                  have HBY := Lib.hid hb
                  clear hb
                  by_cases hlt : k < m5
                  · have i1 : (k : Int) < (m5 : Nat) := by omega
                    have i3 : ¬ (k : Int) < 0 := by omega
                    obtain ⟨kk, hkk⟩ : ∃ kk, kk = k + 1 := ⟨_, rfl⟩
                    have HWK := Lib.hid (Nd.wrap_n k kk hkk (by have := HQL.out.2; omega))
                    have HK := Lib.hid (And.intro hkk hlt)
                    obtain ⟨x5, x6, g5, o5, g6, o6, rfl, rfl, r5, r6, hqq, hbs, s5, s6, h256⟩ := HPR.out wr HBY.out k hlt
                    have c50 : wr.cell? ⟨g5, o5 + k * 2, none⟩ = some (.int .u64 (x5.q : Nat)) := r5 0 _ it_0
                    have c51 : wr.cell? ⟨g5, o5 + k * 2 + 1, none⟩ = some (.slice x5.A x5.bs.length x5.c) := r5 1 _ it_1
                    have c60 : wr.cell? ⟨g6, o6 + k * 2, none⟩ = some (.int .u64 (x5.q : Nat)) := by rw [hqq]; exact r6 0 _ it_0
                    have c61 : wr.cell? ⟨g6, o6 + k * 2 + 1, none⟩ = some (.slice x6.A x6.bs.length x6.c) := r6 1 _ it_1
                    have v5 : (convert 38 9 (.slice x5.A x5.bs.length x5.c)).run Try.prog wr.drew = .ok (.string (Byt.bstr x5.bs)) wr.drew := Byt.conv_src wr.drew x5.A _ x5.c x5.bs (s5.below (Below.refl wr.heap.size wr).drew) rfl h256
                    have v6 : (convert 38 9 (.slice x6.A x6.bs.length x6.c)).run Try.prog wr.drew = .ok (.string (Byt.bstr x5.bs)) wr.drew := by rw [hbs]; exact Byt.conv_src wr.drew x6.A _ x6.c x6.bs (s6.below (Below.refl wr.heap.size wr).drew) rfl (by rw [← hbs]; exact h256)
                    obtain ⟨n5, hn5⟩ : ∃ n5, n5 = x5.bs.length := ⟨_, rfl⟩
                    obtain ⟨n6, hn6⟩ : ∃ n6, n6 = x6.bs.length := ⟨_, rfl⟩
                    obtain ⟨st, hst⟩ : ∃ st, st = Byt.bstr x5.bs := ⟨_, rfl⟩
                    obtain ⟨q5, hq5⟩ : ∃ q5, q5 = x5.q := ⟨_, rfl⟩
                    rw [← hn5] at c51 v5
                    rw [← hn6] at c61 v6
                    rw [← hst] at v5 v6
                    rw [← hq5] at c50 c60
                    clear hk hlt hkk r5 r6 hqq hbs s5 s6 h256 hn5 hn6 hst hq5
                    go_upto_region 38 with fail
                    (try simp only [Act.put, List.setIfInBounds_toArray, List.set_cons_zero, List.set_cons_succ])
                    refine wp_region_plan (S := fun w' => w' = World.drew wr) [(0, true), (1, true), (2, true), (3, true), (4, true), (5, true), (6, true), (7, true), (8, true), (9, true), (10, true), (11, true), (12, true), (13, true), (14, true), (15, true), (16, true), (17, true), (18, true), (19, true), (20, true), (21, true), (22, true), (23, true), (24, true), (25, true)] 9999 (by kernel_rfl) (by kernel_rfl) (by kernel_rfl) (by kernel_rfl) (by kernel_rfl) (fun _ _ d _ _ h => by cases d <;> exact h) rfl (fun hHeld => ?_); simp only [List.map_cons, List.map_nil, List.getElem?_toArray, List.getElem?_cons_zero, List.getElem?_cons_succ]
                    (repeat (first | (refine wpPlan.take (v := undef) (Or.inr ⟨by rfl, rfl⟩) ?_; simp only [Act.put, List.setIfInBounds_toArray, List.set_cons_zero, List.set_cons_succ]) | (refine wpPlan.take (v := ?_) (Or.inl ⟨by rfl, ?_⟩) ?_; rotate_left; (focus (intro _ hS; (try dsimp only at hS); go_split_ands; (try subst hS); go_simp; (try (with_reducible rfl)); done)); simp only [Act.put, List.setIfInBounds_toArray, List.set_cons_zero, List.set_cons_succ]))); refine wpPlan.done ?_; clear hHeld
                    go_wp2_with fail
                    rw [HWK.out]
                    go_roundw
                    case rel => exact ⟨kk, by have := HK.out; omega, rfl, HBY.out.drew⟩
                    case measure => have := HK.out; simp [intOf]; omega
                  · have i1 : ¬ (k : Int) < (m5 : Nat) := by omega
                    clear hlt hk
                    have en : wrap64 ((ni : Int) + (m5 : Nat)) = ((ni + m5 : Nat) : Int) := by unfold wrap64; have h1 := HLE.out; have h2 := HNI.out; have h3 := HQL.out.2; have h4 := HI.out.2; omega
                    obtain ⟨nx, hnx⟩ : ∃ nx, nx = ni + m5 := ⟨_, rfl⟩
                    rw [← hnx] at en
                    have HNX := Lib.hid hnx
                    have HEN := Lib.hid en
                    clear en hnx
                    go_wp2_with fail
                    (try rw [HWI.out])
                    (try rw [HEN.out])
                    go_roundw
                    case rel =>
                      have hnn : nn ii = nx := by rw [HNX.out, HNI.out, HI.out.1, HNN.out.1 i, HQL.out.1, HI.out.1]
                      exact ⟨ii, by have := HI.out; omega, rfl, by rw [hnn], by rw [hnn, HNX.out]; have h1 := HLE.out; have h2 := HNI.out; have h3 := HQL.out.2; have h4 := HI.out.1; omega, HMN.out.next HBY.out, HBN.out.next HBY.out⟩
                    case measure => have := HI.out; simp [intOf]; omega
              · obtain rfl : i = 3 := by omega
                have i1 : ¬ ((3 : Nat) : Int) < 3 := by omega
                clear hlt hi
                have hpk := fun w (hb : Below wr.heap.size wr w) => (HM.out.next hb).packets (i := 0) (by omega)
                rw [HD.out] at hpk
                have HPK := Lib.hid hpk
                clear hpk
                go_wp2_with (first | (go_at_call 7; refine (HAL.out _).mono ?_; rintro e w5 ⟨rfl, hb⟩; have HB5 := Lib.hid hb; have HPK5 := Lib.hid (HPK.out w5 hb); clear hb) | (go_at_call 17; refine HPK5.out.mono ?_; rintro e w6 ⟨vp, lp, rfl, hpa, hpm, -⟩; obtain ⟨Ap, cp, hv⟩ := row_none hpa.row; have hlp : lp.length = ni := (by have h1 := congrArg List.length hpm; rw [List.length_map] at h1; rw [h1, HNI.out, HNN.out.2.1]); rw [hlp] at hv; subst hv; have HB6 := Lib.hid (HB5.out.trans (hpa.b.mono HB5.out.size)); clear hpa hpm hlp))
                go_ret
                exact ⟨by (try simp), HM.out.b.trans (HB6.out.mono HM.out.b.size)⟩
end Ls
end Go.Proofs.Ytifoheodcbjapaa

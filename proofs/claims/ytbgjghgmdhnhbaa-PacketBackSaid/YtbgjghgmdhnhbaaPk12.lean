/-
packet: PacketBack's walk.
-/
import Derived.Test.YtbgjghgmdhnhbaaPk11
namespace Go.Proofs.Ytbgjghgmdhnhbaa
open Go.RowKit
set_option linter.unusedSimpArgs false
set_option linter.unusedVariables false
namespace Pk
theorem good_any (A : Option Addr) (n cp : Nat) (W : World) (bs : List Nat) (hn : bs.length = n) (hnc : n ≤ cp) (hlen : bs.length ≤ 140737488355328) (h256 : ∀ y ∈ bs, y < 256) (hbs : Byt.ByR W A bs) {p : Pt} (h : kP bs = .ok ((p, Crc.sum (encB p)), [])) :
    Calls Try.prog 11 #[.slice A n cp] W fun e W' => Below W.heap.size W W' ∧ ∃ A' c', e = .returned (.tuple #[.agg (Pc.mk p A' c').cells.toArray, .int .i64 0]) ∧ (Pc.mk p A' c').Ok W' := by
  refine (read_ok A n cp W bs hn hnc hlen h256 hbs h).mono ?_
  rintro e W' ⟨hb, ⟨hm, A', c', rfl, ho⟩ | ⟨hm, rfl⟩⟩
  · exact ⟨hb, A', c', rfl, ho⟩
  · exact absurd rfl hm
theorem bad_any (A : Option Addr) (n cp : Nat) (W : World) (bs : List Nat) (hn : bs.length = n) (hnc : n ≤ cp) (hlen : bs.length ≤ 140737488355328) (h256 : ∀ y ∈ bs, y < 256) (hbs : Byt.ByR W A bs) (h : ∀ p, kP bs ≠ .ok ((p, Crc.sum (encB p)), [])) :
    Calls Try.prog 11 #[.slice A n cp] W fun e W' => Below W.heap.size W W' ∧ ∃ x : Int, x ≠ 0 ∧ e = .returned (.tuple #[.agg zc, .int .i64 x]) := by
  by_cases h1 : ∃ p m, kP bs = .ok ((p, m), [])
  · obtain ⟨p, m, h1⟩ := h1
    refine (read_ok A n cp W bs hn hnc hlen h256 hbs h1).mono ?_
    rintro e W' ⟨hb, ⟨hm, A', c', rfl, ho⟩ | ⟨hm, rfl⟩⟩
    · exact absurd (by rw [← hm]; exact h1) (h p)
    · exact ⟨hb, 9, by decide, rfl⟩
  · refine (read_form A n cp W bs hn hnc hlen h256 hbs (fun p m e => h1 ⟨p, m, e⟩)).mono ?_
    rintro e W' ⟨rfl, hb⟩
    exact ⟨hb, 3, by decide, rfl⟩
set_option maxHeartbeats 16000000 in
set_option maxRecDepth 20000 in
theorem back_walk (W : World) (x : Pc) (hx : x.Ok W) (A : Option Addr) (n cb : Nat) (sb : List Nat) (hn : sb.length = n) (hnc : n ≤ cb) (hcb : cb ≤ 9223372036854775807) (h256 : ∀ y ∈ sb, y < 256) (hby : Byt.ByR W A sb) (hA : A = none → sb = []) (cut : Int) :
    Calls Try.prog 3 #[.agg x.cells.toArray, .slice A n cb, .int .i64 cut] W fun e W' => e = .returned (.bool true) ∧ Below W.heap.size W W' := by
  obtain ⟨w0, hw0⟩ : ∃ w0, w0 = W.alloc (.cells x.cells.toArray 25) := ⟨_, rfl⟩
  have hb0 : Below W.heap.size W w0 := by rw [hw0]; exact (Below.refl _ _).alloc (Nat.le_refl _) _
  have hx0 : Blk w0 W.heap.size 25 x.cells.toArray := by rw [hw0]; exact Blk.new _ _ _
  have HW := Lib.hid hw0
  have HOKW := Lib.hid hx
  have H0 := Lib.hid (And.intro hb0 (And.intro hx0 hx))
  have hr0 := hx0.range
  have HG := Lib.hid (great_any w0 x)
  have HN := Lib.hid (And.intro hn (And.intro hnc (And.intro h256 (And.intro hby hA))))
  clear hw0 hb0 hx0 hx hn hnc hcb h256 hby hA
  go_enter Try.func3, Try.ntmps3
  go_upto_region 1 with fail
  rw [← HW.out]
  by_cases hbig : (1810 : Int) < (x.p.bs.length : Nat)
  · rw [decide_eq_true hbig] at HG
    clear hbig
    go_wp2_with (first | (refine wpList_load_mid rfl 25 _ rfl _ _ rfl x.cells _ hr0 Try.underlying25 rfl (pcinfo _) ?_) | (go_at_call 8; refine HG.out.mono ?_; rintro e w1 ⟨rfl, hb⟩; have H1 := Lib.hid (H0.out.1.trans (hb.mono H0.out.1.size)); have HAL := Lib.hid (alive_any w1); clear hb HG) | (go_at_call 9; refine HAL.out.mono ?_; rintro e w2 ⟨rfl, hb⟩; have H2 := Lib.hid (H1.out.trans (hb.mono H1.out.size)); clear hb HAL))
    go_ret
    exact ⟨rfl, H2.out⟩
  · rw [decide_eq_false hbig] at HG
    have HBG := Lib.hid hbig
    clear hbig
    by_cases hbb : (2000 : Int) < (n : Nat)
    · go_wp2_with (first | (refine wpList_load_mid rfl 25 _ rfl _ _ rfl x.cells _ hr0 Try.underlying25 rfl (pcinfo _) ?_) | (go_at_call 8; refine HG.out.mono ?_; rintro e w1 ⟨rfl, hb⟩; have H1 := Lib.hid (H0.out.1.trans (hb.mono H0.out.1.size)); have HAL := Lib.hid (alive_any w1); clear hb HG) | (go_at_call 9; refine HAL.out.mono ?_; rintro e w2 ⟨rfl, hb⟩; have H2 := Lib.hid (H1.out.trans (hb.mono H1.out.size)); clear hb HAL))
      go_ret
      exact ⟨rfl, H2.out⟩
    · have HS := Lib.hid (show sb.length = n ∧ n ≤ cb ∧ sb.length ≤ 140737488355328 ∧ (∀ y ∈ sb, y < 256) ∧ Byt.ByR W A sb ∧ (A = none → sb = []) from ⟨HN.out.1, HN.out.2.1, by have := HN.out.1; omega, HN.out.2.2.1, HN.out.2.2.2.1, HN.out.2.2.2.2⟩)
      go_upto_region 3 with (first | (refine wpList_load_mid rfl 25 _ rfl _ _ rfl x.cells _ hr0 Try.underlying25 rfl (pcinfo _) ?_) | (go_at_call 8; refine HG.out.mono ?_; rintro e w1 ⟨rfl, hb⟩; have H1 := Lib.hid (And.intro (H0.out.1.trans (hb.mono H0.out.1.size)) (And.intro (H0.out.2.1.next hb) (H0.out.2.2.next (H0.out.1.trans (hb.mono H0.out.1.size))))); clear hb HG))
      clear hr0 hbb H0
      have hr1 := H1.out.2.1.range
      cases hr : rightB x.p with
      | false =>
        have HWR := Lib.hid (write_no w1 x hr)
        clear hr
        go_upto_region 12 with (first | (refine wpList_load_mid rfl 25 _ rfl _ _ rfl x.cells _ hr1 Try.underlying25 rfl (pcinfo _) ?_) | (go_at_call 10; refine HWR.out.mono ?_; rintro e w2 ⟨rfl, hb⟩; have H2 := Lib.hid (H1.out.1.trans (hb.mono H1.out.1.size)); clear hb HWR))
        clear hr1
        by_cases hgood : ∃ p, kP sb = .ok ((p, Crc.sum (encB p)), [])
        · obtain ⟨pg, hpg⟩ := hgood
          have HPG := Lib.hid (And.intro hpg (And.intro (kP_right hpg) (k_one HS.out.2.2.2.1 hpg)))
          have HRD := Lib.hid (good_any A n cb w2 sb HS.out.1 HS.out.2.1 HS.out.2.2.1 HS.out.2.2.2.1 (HS.out.2.2.2.2.1.next H2.out) hpg)
          clear hpg
          go_upto_region 13 with (first | (go_at_call 11; refine HRD.out.mono ?_; rintro e wa ⟨hb, A', c', rfl, ho⟩; have HA := Lib.hid (And.intro (H2.out.trans (hb.mono H2.out.size)) ho); clear hb ho HRD) | (refine wpList_store_blk rfl 25 _ _ rfl wa.heap.size 25 zc (Pc.mk pg A' c').cells.toArray rfl rfl (Blk.new wa _ _) (pcinfoA _) (pc_siz _) (pc_one _) ?_; intro b5; clear b5))
          rw [Wr.alloc_setRow]
          obtain ⟨wb, hwn⟩ : ∃ wb, wb = wa.alloc (.cells (Pc.mk pg A' c').cells.toArray 25) := ⟨_, rfl⟩
          have hxn : Blk wb wa.heap.size 25 (Pc.mk pg A' c').cells.toArray := by rw [hwn]; exact Blk.new _ _ _
          have hbn : Below wa.heap.size wa wb := by rw [hwn]; exact (Below.refl _ _).alloc (Nat.le_refl _) _
          rw [← hwn]
          clear hwn
          have hrb := hxn.range
          have HWB := Lib.hid (write_yes wb (Pc.mk pg A' c') HPG.out.2.1 (HA.out.2.next hbn))
          have HBB := Lib.hid (HA.out.1.trans (hbn.mono HA.out.1.size))
          clear hxn hbn HA
          go_upto_region 14 with (first | (refine wpList_load_mid rfl 25 _ rfl _ _ rfl (Pc.mk pg A' c').cells _ hrb Try.underlying25 rfl (pcinfo _) ?_) | (go_at_call 10; refine HWB.out.mono ?_; rintro e wc ⟨vc, rfl, ho, hb⟩; obtain ⟨Ac, cc, rfl, hcc, hyc, hnc⟩ := Byt.own_byr (bs := encP pg) ho; have HC := Lib.hid (And.intro (HBB.out.trans (hb.mono HBB.out.size)) (And.intro hyc hnc)); clear ho hb hcc hyc hnc HWB))
          clear hrb
          have HAL := Lib.hid (alive_any wc)
          have HCV := Lib.hid (fun w (hb : Below wc.heap.size wc w) => (show (convert 23 9 (.slice Ac (encP pg).length cc)).run Try.prog w = .ok (.string (Byt.bstr sb)) w ∧ (convert 23 9 (.slice A n cb)).run Try.prog w = .ok (.string (Byt.bstr sb)) w from ⟨by
              have h1 := (HC.out.2.1.next hb)
              have h2 := Byt.conv_src w Ac (encP pg).length cc (encP pg) (h1.src HC.out.2.2) rfl (by rw [← HPG.out.2.2]; exact HS.out.2.2.2.1)
              rw [h2, ← HPG.out.2.2], by
              have h1 := (HS.out.2.2.2.2.1.next (HC.out.1.trans (hb.mono HC.out.1.size)))
              have h2 : Src w A n (u8s sb) := HS.out.1 ▸ h1.src HS.out.2.2.2.2.2
              exact Byt.conv_src w A n cb sb h2 HS.out.1 HS.out.2.2.2.1⟩))
          obtain ⟨ne, hne⟩ : ∃ ne, ne = (encP pg).length := ⟨_, rfl⟩
          rw [← hne] at HCV ⊢
          clear hne
          go_wp2_with (first | (go_at_call 9; refine HAL.out.mono ?_; rintro e wd ⟨rfl, hb⟩; obtain ⟨hk1, hk2⟩ := HCV.out wd hb; have HD := Lib.hid (HC.out.1.trans (hb.mono HC.out.1.size)); clear hb HAL HCV))
          go_ret
          exact ⟨rfl, HD.out⟩
        · have HRD := Lib.hid (bad_any A n cb w2 sb HS.out.1 HS.out.2.1 HS.out.2.2.1 HS.out.2.2.2.1 (HS.out.2.2.2.2.1.next H2.out) (fun p h => hgood ⟨p, h⟩))
          clear hgood
          go_upto_region 13 with (first | (go_at_call 11; refine HRD.out.mono ?_; rintro e wa ⟨hb, x, hx0, rfl⟩; have q1 : (x != 0) = true := (by simpa using hx0); have q2 : (x == 0) = false := (by simpa using hx0); have HA := Lib.hid (H2.out.trans (hb.mono H2.out.size)); clear hb hx0 HRD) | (refine wpList_store_blk rfl 25 _ _ rfl wa.heap.size 25 zc zc rfl rfl (Blk.new wa _ _) (by kernel_rfl) rfl (by simp [Value.oneCell']) ?_; intro b5; clear b5))
          rw [Wr.alloc_setRow]
          obtain ⟨wb, hwn⟩ : ∃ wb, wb = wa.alloc (.cells zc 25) := ⟨_, rfl⟩
          have hxn : Blk wb wa.heap.size 25 zc := by rw [hwn]; exact Blk.new _ _ _
          have hbn : Below wa.heap.size wa wb := by rw [hwn]; exact (Below.refl _ _).alloc (Nat.le_refl _) _
          rw [← hwn]
          clear hwn
          have hrb : wb.rangeAt wa.heap.size 0 (Pc.mk ⟨false, 0, 0, 0, []⟩ none 0).cells := hxn.range (cs := (Pc.mk ⟨false, 0, 0, 0, []⟩ none 0).cells)
          have HWB := Lib.hid (write_no wb (Pc.mk ⟨false, 0, 0, 0, []⟩ none 0) (show rightB ⟨false, 0, 0, 0, []⟩ = false by decide))
          have HBB := Lib.hid (HA.out.trans (hbn.mono HA.out.size))
          clear hxn hbn HA
          go_upto_region 14 with (first | (refine wpList_load_mid rfl 25 _ rfl _ _ rfl (Pc.mk ⟨false, 0, 0, 0, []⟩ none 0).cells _ hrb Try.underlying25 rfl (pcinfo _) ?_) | (go_at_call 10; refine HWB.out.mono ?_; rintro e wc ⟨rfl, hb⟩; have HC := Lib.hid (HBB.out.trans (hb.mono HBB.out.size)); clear hb HWB))
          clear hrb
          have HAL := Lib.hid (alive_any wc)
          go_wp2_with (first | (go_at_call 9; refine HAL.out.mono ?_; rintro e wd ⟨rfl, hb⟩; have HD := Lib.hid (HC.out.trans (hb.mono HC.out.size)); clear hb HAL))
          go_ret
          exact ⟨rfl, HD.out⟩
      | true =>
        have HRT := Lib.hid (right_of hr)
        have HWR := Lib.hid (write_yes w1 x (right_of hr) H1.out.2.2)
        clear hr
        obtain ⟨p, hp⟩ : ∃ p, p = x.p := ⟨_, rfl⟩
        have HP := Lib.hid hp
        rw [← hp] at HRT HWR
        clear hp
        go_upto_region 5 with (first | (refine wpList_load_mid rfl 25 _ rfl _ _ rfl x.cells _ hr1 Try.underlying25 rfl (pcinfo _) ?_) | (go_at_call 10; refine HWR.out.mono ?_; rintro e w2 ⟨v2, rfl, ho, hb⟩; obtain ⟨A2, c2, rfl, hc2, hy2, hn2⟩ := Byt.own_byr (bs := encP p) ho; have H2 := Lib.hid (And.intro (H1.out.1.trans (hb.mono H1.out.1.size)) (And.intro (H1.out.2.1.next hb) (And.intro hc2 (And.intro hy2 hn2)))); clear hb ho hc2 hy2 hn2 HWR))
        clear hr1
        have hp256 : ∀ y ∈ p.bs, y < 256 := by rw [HP.out]; exact H1.out.2.2.h256
        have HP2 := Lib.hid hp256
        clear hp256
        have HRD := Lib.hid (read_mine A2 (encP p).length c2 w2 p rfl H2.out.2.2.1 HRT.out HP2.out H2.out.2.2.2.1)
        go_upto_region 6 with (first | (go_at_call 11; refine HRD.out.mono ?_; rintro e w3 ⟨hb, A3, c3, rfl, ho⟩; have H3 := Lib.hid (And.intro hb ho); clear hb ho HRD) | (refine wpList_store_blk rfl 25 _ _ rfl w3.heap.size 25 zc (Pc.mk p A3 c3).cells.toArray rfl rfl (Blk.new w3 _ _) (pcinfoA _) (pc_siz _) (pc_one _) ?_; intro b5; clear b5))
        rw [Wr.alloc_setRow]
        obtain ⟨w4, hwn⟩ : ∃ w4, w4 = w3.alloc (.cells (Pc.mk p A3 c3).cells.toArray 25) := ⟨_, rfl⟩
        have hxn : Blk w4 w3.heap.size 25 (Pc.mk p A3 c3).cells.toArray := by rw [hwn]; exact Blk.new _ _ _
        have hbn : Below w3.heap.size w3 w4 := by rw [hwn]; exact (Below.refl _ _).alloc (Nat.le_refl _) _
        rw [← hwn]
        clear hwn
        have hb24 := H3.out.1.trans (hbn.mono H3.out.1.size)
        have hr4 := (H2.out.2.1.next hb24).range
        have hrn := hxn.range
        have hxe : x = Pc.mk p x.A x.c := by rw [HP.out]
        have HS4 := Lib.hid (same_yes w4 p x.A A3 x.c c3 (by rw [← hxe]; exact HOKW.out.next (H2.out.1.trans (hb24.mono H2.out.1.size))) (H3.out.2.next hbn))
        rw [← hxe] at HS4
        have H4 := Lib.hid (And.intro (H2.out.1.trans (hb24.mono H2.out.1.size)) (H2.out.2.2.2.1.next hb24))
        clear hb24 hxn hbn hxe
        obtain ⟨g3, hg3⟩ : ∃ g3, g3 = w3.heap.size := ⟨_, rfl⟩
        rw [← hg3] at hrn ⊢
        clear hg3 H3
        go_upto_region 8 with (first | (refine load_midg rfl 25 _ rfl W.heap.size 0 rfl x.cells _ hr4 Try.underlying25 rfl (pcinfo _) ?_) | (refine load_midg rfl 25 _ rfl g3 0 rfl (Pc.mk p A3 c3).cells _ hrn Try.underlying25 rfl (pcinfo _) ?_) | (go_at_call 12; refine HS4.out.mono ?_; rintro e w5 ⟨rfl, hb⟩; have H5 := Lib.hid (And.intro (H4.out.1.trans (hb.mono H4.out.1.size)) (H4.out.2.next hb)); clear hb HS4))
        clear hr4 hrn
        obtain ⟨m, hm⟩ : ∃ m, m = (encP p).length := ⟨_, rfl⟩
        rw [← hm]
        have HM := Lib.hid hm
        clear hm
        have hcut : ¬ (0 : Int) ≤ cut ∨ ((0 : Int) ≤ cut ∧ ¬ cut < (m : Nat)) ∨ ((0 : Int) ≤ cut ∧ cut < (m : Nat)) := by omega
        rcases hcut with k1 | ⟨k1, k2⟩ | ⟨k1, k2⟩
        · go_upto_region 12 with fail
          clear k1
          have H6 := Lib.hid H5.out.1
          by_cases hgood : ∃ p, kP sb = .ok ((p, Crc.sum (encB p)), [])
          · obtain ⟨pg, hpg⟩ := hgood
            have HPG := Lib.hid (And.intro hpg (And.intro (kP_right hpg) (k_one HS.out.2.2.2.1 hpg)))
            have HRD := Lib.hid (good_any A n cb w5 sb HS.out.1 HS.out.2.1 HS.out.2.2.1 HS.out.2.2.2.1 (HS.out.2.2.2.2.1.next H6.out) hpg)
            clear hpg
            go_upto_region 13 with (first | (go_at_call 11; refine HRD.out.mono ?_; rintro e wa ⟨hb, A', c', rfl, ho⟩; have HA := Lib.hid (And.intro (H6.out.trans (hb.mono H6.out.size)) ho); clear hb ho HRD) | (refine wpList_store_blk rfl 25 _ _ rfl wa.heap.size 25 zc (Pc.mk pg A' c').cells.toArray rfl rfl (Blk.new wa _ _) (pcinfoA _) (pc_siz _) (pc_one _) ?_; intro b5; clear b5))
            rw [Wr.alloc_setRow]
            obtain ⟨wb, hwn⟩ : ∃ wb, wb = wa.alloc (.cells (Pc.mk pg A' c').cells.toArray 25) := ⟨_, rfl⟩
            have hxn : Blk wb wa.heap.size 25 (Pc.mk pg A' c').cells.toArray := by rw [hwn]; exact Blk.new _ _ _
            have hbn : Below wa.heap.size wa wb := by rw [hwn]; exact (Below.refl _ _).alloc (Nat.le_refl _) _
            rw [← hwn]
            clear hwn
            have hrb := hxn.range
            have HWB := Lib.hid (write_yes wb (Pc.mk pg A' c') HPG.out.2.1 (HA.out.2.next hbn))
            have HBB := Lib.hid (HA.out.1.trans (hbn.mono HA.out.1.size))
            clear hxn hbn HA
            go_upto_region 14 with (first | (refine wpList_load_mid rfl 25 _ rfl _ _ rfl (Pc.mk pg A' c').cells _ hrb Try.underlying25 rfl (pcinfo _) ?_) | (go_at_call 10; refine HWB.out.mono ?_; rintro e wc ⟨vc, rfl, ho, hb⟩; obtain ⟨Ac, cc, rfl, hcc, hyc, hnc⟩ := Byt.own_byr (bs := encP pg) ho; have HC := Lib.hid (And.intro (HBB.out.trans (hb.mono HBB.out.size)) (And.intro hyc hnc)); clear ho hb hcc hyc hnc HWB))
            clear hrb
            have HAL := Lib.hid (alive_any wc)
            have HCV := Lib.hid (fun w (hb : Below wc.heap.size wc w) => (show (convert 23 9 (.slice Ac (encP pg).length cc)).run Try.prog w = .ok (.string (Byt.bstr sb)) w ∧ (convert 23 9 (.slice A n cb)).run Try.prog w = .ok (.string (Byt.bstr sb)) w from ⟨by
                have h1 := (HC.out.2.1.next hb)
                have h2 := Byt.conv_src w Ac (encP pg).length cc (encP pg) (h1.src HC.out.2.2) rfl (by rw [← HPG.out.2.2]; exact HS.out.2.2.2.1)
                rw [h2, ← HPG.out.2.2], by
                have h1 := (HS.out.2.2.2.2.1.next (HC.out.1.trans (hb.mono HC.out.1.size)))
                have h2 : Src w A n (u8s sb) := HS.out.1 ▸ h1.src HS.out.2.2.2.2.2
                exact Byt.conv_src w A n cb sb h2 HS.out.1 HS.out.2.2.2.1⟩))
            obtain ⟨ne, hne⟩ : ∃ ne, ne = (encP pg).length := ⟨_, rfl⟩
            rw [← hne] at HCV ⊢
            clear hne
            go_wp2_with (first | (go_at_call 9; refine HAL.out.mono ?_; rintro e wd ⟨rfl, hb⟩; obtain ⟨hk1, hk2⟩ := HCV.out wd hb; have HD := Lib.hid (HC.out.1.trans (hb.mono HC.out.1.size)); clear hb HAL HCV))
            go_ret
            exact ⟨rfl, HD.out⟩
          · have HRD := Lib.hid (bad_any A n cb w5 sb HS.out.1 HS.out.2.1 HS.out.2.2.1 HS.out.2.2.2.1 (HS.out.2.2.2.2.1.next H6.out) (fun p h => hgood ⟨p, h⟩))
            clear hgood
            go_upto_region 13 with (first | (go_at_call 11; refine HRD.out.mono ?_; rintro e wa ⟨hb, x, hx0, rfl⟩; have q1 : (x != 0) = true := (by simpa using hx0); have q2 : (x == 0) = false := (by simpa using hx0); have HA := Lib.hid (H6.out.trans (hb.mono H6.out.size)); clear hb hx0 HRD) | (refine wpList_store_blk rfl 25 _ _ rfl wa.heap.size 25 zc zc rfl rfl (Blk.new wa _ _) (by kernel_rfl) rfl (by simp [Value.oneCell']) ?_; intro b5; clear b5))
            rw [Wr.alloc_setRow]
            obtain ⟨wb, hwn⟩ : ∃ wb, wb = wa.alloc (.cells zc 25) := ⟨_, rfl⟩
            have hxn : Blk wb wa.heap.size 25 zc := by rw [hwn]; exact Blk.new _ _ _
            have hbn : Below wa.heap.size wa wb := by rw [hwn]; exact (Below.refl _ _).alloc (Nat.le_refl _) _
            rw [← hwn]
            clear hwn
            have hrb : wb.rangeAt wa.heap.size 0 (Pc.mk ⟨false, 0, 0, 0, []⟩ none 0).cells := hxn.range (cs := (Pc.mk ⟨false, 0, 0, 0, []⟩ none 0).cells)
            have HWB := Lib.hid (write_no wb (Pc.mk ⟨false, 0, 0, 0, []⟩ none 0) (show rightB ⟨false, 0, 0, 0, []⟩ = false by decide))
            have HBB := Lib.hid (HA.out.trans (hbn.mono HA.out.size))
            clear hxn hbn HA
            go_upto_region 14 with (first | (refine wpList_load_mid rfl 25 _ rfl _ _ rfl (Pc.mk ⟨false, 0, 0, 0, []⟩ none 0).cells _ hrb Try.underlying25 rfl (pcinfo _) ?_) | (go_at_call 10; refine HWB.out.mono ?_; rintro e wc ⟨rfl, hb⟩; have HC := Lib.hid (HBB.out.trans (hb.mono HBB.out.size)); clear hb HWB))
            clear hrb
            have HAL := Lib.hid (alive_any wc)
            go_wp2_with (first | (go_at_call 9; refine HAL.out.mono ?_; rintro e wd ⟨rfl, hb⟩; have HD := Lib.hid (HC.out.trans (hb.mono HC.out.size)); clear hb HAL))
            go_ret
            exact ⟨rfl, HD.out⟩
        · go_upto_region 12 with fail
          clear k1 k2
          have H6 := Lib.hid H5.out.1
          by_cases hgood : ∃ p, kP sb = .ok ((p, Crc.sum (encB p)), [])
          · obtain ⟨pg, hpg⟩ := hgood
            have HPG := Lib.hid (And.intro hpg (And.intro (kP_right hpg) (k_one HS.out.2.2.2.1 hpg)))
            have HRD := Lib.hid (good_any A n cb w5 sb HS.out.1 HS.out.2.1 HS.out.2.2.1 HS.out.2.2.2.1 (HS.out.2.2.2.2.1.next H6.out) hpg)
            clear hpg
            go_upto_region 13 with (first | (go_at_call 11; refine HRD.out.mono ?_; rintro e wa ⟨hb, A', c', rfl, ho⟩; have HA := Lib.hid (And.intro (H6.out.trans (hb.mono H6.out.size)) ho); clear hb ho HRD) | (refine wpList_store_blk rfl 25 _ _ rfl wa.heap.size 25 zc (Pc.mk pg A' c').cells.toArray rfl rfl (Blk.new wa _ _) (pcinfoA _) (pc_siz _) (pc_one _) ?_; intro b5; clear b5))
            rw [Wr.alloc_setRow]
            obtain ⟨wb, hwn⟩ : ∃ wb, wb = wa.alloc (.cells (Pc.mk pg A' c').cells.toArray 25) := ⟨_, rfl⟩
            have hxn : Blk wb wa.heap.size 25 (Pc.mk pg A' c').cells.toArray := by rw [hwn]; exact Blk.new _ _ _
            have hbn : Below wa.heap.size wa wb := by rw [hwn]; exact (Below.refl _ _).alloc (Nat.le_refl _) _
            rw [← hwn]
            clear hwn
            have hrb := hxn.range
            have HWB := Lib.hid (write_yes wb (Pc.mk pg A' c') HPG.out.2.1 (HA.out.2.next hbn))
            have HBB := Lib.hid (HA.out.1.trans (hbn.mono HA.out.1.size))
            clear hxn hbn HA
            go_upto_region 14 with (first | (refine wpList_load_mid rfl 25 _ rfl _ _ rfl (Pc.mk pg A' c').cells _ hrb Try.underlying25 rfl (pcinfo _) ?_) | (go_at_call 10; refine HWB.out.mono ?_; rintro e wc ⟨vc, rfl, ho, hb⟩; obtain ⟨Ac, cc, rfl, hcc, hyc, hnc⟩ := Byt.own_byr (bs := encP pg) ho; have HC := Lib.hid (And.intro (HBB.out.trans (hb.mono HBB.out.size)) (And.intro hyc hnc)); clear ho hb hcc hyc hnc HWB))
            clear hrb
            have HAL := Lib.hid (alive_any wc)
            have HCV := Lib.hid (fun w (hb : Below wc.heap.size wc w) => (show (convert 23 9 (.slice Ac (encP pg).length cc)).run Try.prog w = .ok (.string (Byt.bstr sb)) w ∧ (convert 23 9 (.slice A n cb)).run Try.prog w = .ok (.string (Byt.bstr sb)) w from ⟨by
                have h1 := (HC.out.2.1.next hb)
                have h2 := Byt.conv_src w Ac (encP pg).length cc (encP pg) (h1.src HC.out.2.2) rfl (by rw [← HPG.out.2.2]; exact HS.out.2.2.2.1)
                rw [h2, ← HPG.out.2.2], by
                have h1 := (HS.out.2.2.2.2.1.next (HC.out.1.trans (hb.mono HC.out.1.size)))
                have h2 : Src w A n (u8s sb) := HS.out.1 ▸ h1.src HS.out.2.2.2.2.2
                exact Byt.conv_src w A n cb sb h2 HS.out.1 HS.out.2.2.2.1⟩))
            obtain ⟨ne, hne⟩ : ∃ ne, ne = (encP pg).length := ⟨_, rfl⟩
            rw [← hne] at HCV ⊢
            clear hne
            go_wp2_with (first | (go_at_call 9; refine HAL.out.mono ?_; rintro e wd ⟨rfl, hb⟩; obtain ⟨hk1, hk2⟩ := HCV.out wd hb; have HD := Lib.hid (HC.out.1.trans (hb.mono HC.out.1.size)); clear hb HAL HCV))
            go_ret
            exact ⟨rfl, HD.out⟩
          · have HRD := Lib.hid (bad_any A n cb w5 sb HS.out.1 HS.out.2.1 HS.out.2.2.1 HS.out.2.2.2.1 (HS.out.2.2.2.2.1.next H6.out) (fun p h => hgood ⟨p, h⟩))
            clear hgood
            go_upto_region 13 with (first | (go_at_call 11; refine HRD.out.mono ?_; rintro e wa ⟨hb, x, hx0, rfl⟩; have q1 : (x != 0) = true := (by simpa using hx0); have q2 : (x == 0) = false := (by simpa using hx0); have HA := Lib.hid (H6.out.trans (hb.mono H6.out.size)); clear hb hx0 HRD) | (refine wpList_store_blk rfl 25 _ _ rfl wa.heap.size 25 zc zc rfl rfl (Blk.new wa _ _) (by kernel_rfl) rfl (by simp [Value.oneCell']) ?_; intro b5; clear b5))
            rw [Wr.alloc_setRow]
            obtain ⟨wb, hwn⟩ : ∃ wb, wb = wa.alloc (.cells zc 25) := ⟨_, rfl⟩
            have hxn : Blk wb wa.heap.size 25 zc := by rw [hwn]; exact Blk.new _ _ _
            have hbn : Below wa.heap.size wa wb := by rw [hwn]; exact (Below.refl _ _).alloc (Nat.le_refl _) _
            rw [← hwn]
            clear hwn
            have hrb : wb.rangeAt wa.heap.size 0 (Pc.mk ⟨false, 0, 0, 0, []⟩ none 0).cells := hxn.range (cs := (Pc.mk ⟨false, 0, 0, 0, []⟩ none 0).cells)
            have HWB := Lib.hid (write_no wb (Pc.mk ⟨false, 0, 0, 0, []⟩ none 0) (show rightB ⟨false, 0, 0, 0, []⟩ = false by decide))
            have HBB := Lib.hid (HA.out.trans (hbn.mono HA.out.size))
            clear hxn hbn HA
            go_upto_region 14 with (first | (refine wpList_load_mid rfl 25 _ rfl _ _ rfl (Pc.mk ⟨false, 0, 0, 0, []⟩ none 0).cells _ hrb Try.underlying25 rfl (pcinfo _) ?_) | (go_at_call 10; refine HWB.out.mono ?_; rintro e wc ⟨rfl, hb⟩; have HC := Lib.hid (HBB.out.trans (hb.mono HBB.out.size)); clear hb HWB))
            clear hrb
            have HAL := Lib.hid (alive_any wc)
            go_wp2_with (first | (go_at_call 9; refine HAL.out.mono ?_; rintro e wd ⟨rfl, hb⟩; have HD := Lib.hid (HC.out.trans (hb.mono HC.out.size)); clear hb HAL))
            go_ret
            exact ⟨rfl, HD.out⟩
        · obtain ⟨j, rfl⟩ : ∃ j : Nat, cut = (j : Nat) := ⟨cut.toNat, by omega⟩
          have hj : j < m := by omega
          obtain ⟨g2, o2, rfl⟩ := byr_some H5.out.2 (by rw [← HM.out]; omega)
          have hml : m ≤ 2010 := by rw [HM.out]; unfold encP; rw [List.length_append]; have h1 := encB_len HRT.out; have h2 := Crc.sum_lt (encB_256 HP2.out); have h3 := enc_len (Crc.sum (encB p)) (by omega); omega
          have hmc : m ≤ c2 := by rw [HM.out]; exact H2.out.2.2.1
          have HRC := Lib.hid (bad_any (some ⟨g2, o2, none⟩) j c2 w5 ((encP p).take j) (by rw [List.length_take, ← HM.out]; omega) (by omega) (by rw [List.length_take, ← HM.out]; omega) (fun y hy => encP_256 HP2.out y (List.mem_of_mem_take hy)) (byr_take H5.out.2 j) (fun q h => k_less HRT.out HP2.out j (by rw [← HM.out]; exact hj) q _ h))
          have i5 : (j : Int) ≤ (c2 : Nat) := by omega
          have i7 : c2 ≠ 0 := by omega
          clear hj hml hmc
          go_upto_region 10 with (first | (go_at_call 11; refine HRC.out.mono ?_; rintro e w6 ⟨hb, x6, hx6, rfl⟩; have q61 : (x6 == 0) = false := (by simpa using hx6); have H6 := Lib.hid (H5.out.1.trans (hb.mono H5.out.1.size)); clear hb hx6 HRC) | (refine wpList_store_blk rfl 25 _ _ rfl w6.heap.size 25 zc zc rfl rfl (Blk.new w6 _ _) (by kernel_rfl) rfl (by simp [Value.oneCell']) ?_; intro b5; clear b5))
          rw [Wr.alloc_setRow]
          obtain ⟨w7, hwn⟩ : ∃ w7, w7 = w6.alloc (.cells zc 25) := ⟨_, rfl⟩
          have hxn : Blk w7 w6.heap.size 25 zc := by rw [hwn]; exact Blk.new _ _ _
          have hbn : Below w6.heap.size w6 w7 := by rw [hwn]; exact (Below.refl _ _).alloc (Nat.le_refl _) _
          rw [← hwn]
          clear hwn
          have H7 := Lib.hid (H6.out.trans (hbn.mono H6.out.size))
          clear hxn hbn
          go_upto_region 12 with fail
          clear k1 k2 i5 i7 q61
          by_cases hgood : ∃ p, kP sb = .ok ((p, Crc.sum (encB p)), [])
          · obtain ⟨pg, hpg⟩ := hgood
            have HPG := Lib.hid (And.intro hpg (And.intro (kP_right hpg) (k_one HS.out.2.2.2.1 hpg)))
            have HRD := Lib.hid (good_any A n cb w7 sb HS.out.1 HS.out.2.1 HS.out.2.2.1 HS.out.2.2.2.1 (HS.out.2.2.2.2.1.next H7.out) hpg)
            clear hpg
            go_upto_region 13 with (first | (go_at_call 11; refine HRD.out.mono ?_; rintro e wa ⟨hb, A', c', rfl, ho⟩; have HA := Lib.hid (And.intro (H7.out.trans (hb.mono H7.out.size)) ho); clear hb ho HRD) | (refine wpList_store_blk rfl 25 _ _ rfl wa.heap.size 25 zc (Pc.mk pg A' c').cells.toArray rfl rfl (Blk.new wa _ _) (pcinfoA _) (pc_siz _) (pc_one _) ?_; intro b5; clear b5))
            rw [Wr.alloc_setRow]
            obtain ⟨wb, hwn⟩ : ∃ wb, wb = wa.alloc (.cells (Pc.mk pg A' c').cells.toArray 25) := ⟨_, rfl⟩
            have hxn : Blk wb wa.heap.size 25 (Pc.mk pg A' c').cells.toArray := by rw [hwn]; exact Blk.new _ _ _
            have hbn : Below wa.heap.size wa wb := by rw [hwn]; exact (Below.refl _ _).alloc (Nat.le_refl _) _
            rw [← hwn]
            clear hwn
            have hrb := hxn.range
            have HWB := Lib.hid (write_yes wb (Pc.mk pg A' c') HPG.out.2.1 (HA.out.2.next hbn))
            have HBB := Lib.hid (HA.out.1.trans (hbn.mono HA.out.1.size))
            clear hxn hbn HA
            go_upto_region 14 with (first | (refine wpList_load_mid rfl 25 _ rfl _ _ rfl (Pc.mk pg A' c').cells _ hrb Try.underlying25 rfl (pcinfo _) ?_) | (go_at_call 10; refine HWB.out.mono ?_; rintro e wc ⟨vc, rfl, ho, hb⟩; obtain ⟨Ac, cc, rfl, hcc, hyc, hnc⟩ := Byt.own_byr (bs := encP pg) ho; have HC := Lib.hid (And.intro (HBB.out.trans (hb.mono HBB.out.size)) (And.intro hyc hnc)); clear ho hb hcc hyc hnc HWB))
            clear hrb
            have HAL := Lib.hid (alive_any wc)
            have HCV := Lib.hid (fun w (hb : Below wc.heap.size wc w) => (show (convert 23 9 (.slice Ac (encP pg).length cc)).run Try.prog w = .ok (.string (Byt.bstr sb)) w ∧ (convert 23 9 (.slice A n cb)).run Try.prog w = .ok (.string (Byt.bstr sb)) w from ⟨by
                have h1 := (HC.out.2.1.next hb)
                have h2 := Byt.conv_src w Ac (encP pg).length cc (encP pg) (h1.src HC.out.2.2) rfl (by rw [← HPG.out.2.2]; exact HS.out.2.2.2.1)
                rw [h2, ← HPG.out.2.2], by
                have h1 := (HS.out.2.2.2.2.1.next (HC.out.1.trans (hb.mono HC.out.1.size)))
                have h2 : Src w A n (u8s sb) := HS.out.1 ▸ h1.src HS.out.2.2.2.2.2
                exact Byt.conv_src w A n cb sb h2 HS.out.1 HS.out.2.2.2.1⟩))
            obtain ⟨ne, hne⟩ : ∃ ne, ne = (encP pg).length := ⟨_, rfl⟩
            rw [← hne] at HCV ⊢
            clear hne
            go_wp2_with (first | (go_at_call 9; refine HAL.out.mono ?_; rintro e wd ⟨rfl, hb⟩; obtain ⟨hk1, hk2⟩ := HCV.out wd hb; have HD := Lib.hid (HC.out.1.trans (hb.mono HC.out.1.size)); clear hb HAL HCV))
            go_ret
            exact ⟨rfl, HD.out⟩
          · have HRD := Lib.hid (bad_any A n cb w7 sb HS.out.1 HS.out.2.1 HS.out.2.2.1 HS.out.2.2.2.1 (HS.out.2.2.2.2.1.next H7.out) (fun p h => hgood ⟨p, h⟩))
            clear hgood
            go_upto_region 13 with (first | (go_at_call 11; refine HRD.out.mono ?_; rintro e wa ⟨hb, x, hx0, rfl⟩; have q1 : (x != 0) = true := (by simpa using hx0); have q2 : (x == 0) = false := (by simpa using hx0); have HA := Lib.hid (H7.out.trans (hb.mono H7.out.size)); clear hb hx0 HRD) | (refine wpList_store_blk rfl 25 _ _ rfl wa.heap.size 25 zc zc rfl rfl (Blk.new wa _ _) (by kernel_rfl) rfl (by simp [Value.oneCell']) ?_; intro b5; clear b5))
            rw [Wr.alloc_setRow]
            obtain ⟨wb, hwn⟩ : ∃ wb, wb = wa.alloc (.cells zc 25) := ⟨_, rfl⟩
            have hxn : Blk wb wa.heap.size 25 zc := by rw [hwn]; exact Blk.new _ _ _
            have hbn : Below wa.heap.size wa wb := by rw [hwn]; exact (Below.refl _ _).alloc (Nat.le_refl _) _
            rw [← hwn]
            clear hwn
            have hrb : wb.rangeAt wa.heap.size 0 (Pc.mk ⟨false, 0, 0, 0, []⟩ none 0).cells := hxn.range (cs := (Pc.mk ⟨false, 0, 0, 0, []⟩ none 0).cells)
            have HWB := Lib.hid (write_no wb (Pc.mk ⟨false, 0, 0, 0, []⟩ none 0) (show rightB ⟨false, 0, 0, 0, []⟩ = false by decide))
            have HBB := Lib.hid (HA.out.trans (hbn.mono HA.out.size))
            clear hxn hbn HA
            go_upto_region 14 with (first | (refine wpList_load_mid rfl 25 _ rfl _ _ rfl (Pc.mk ⟨false, 0, 0, 0, []⟩ none 0).cells _ hrb Try.underlying25 rfl (pcinfo _) ?_) | (go_at_call 10; refine HWB.out.mono ?_; rintro e wc ⟨rfl, hb⟩; have HC := Lib.hid (HBB.out.trans (hb.mono HBB.out.size)); clear hb HWB))
            clear hrb
            have HAL := Lib.hid (alive_any wc)
            go_wp2_with (first | (go_at_call 9; refine HAL.out.mono ?_; rintro e wd ⟨rfl, hb⟩; have HD := Lib.hid (HC.out.trans (hb.mono HC.out.size)); clear hb HAL))
            go_ret
            exact ⟨rfl, HD.out⟩
end Pk
end Go.Proofs.Ytbgjghgmdhnhbaa

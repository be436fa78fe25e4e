/-
cuts: CutsOne's walk.
-/
import Derived.Test.YtbnapbjmffajfaaCu44
import Derived.Deep.CutBlock
namespace Go.Proofs.Ytbnapbjmffajfaa
open Go.RowKit
set_option linter.unusedSimpArgs false
set_option linter.unusedVariables false
namespace Co
open Cb
set_option maxHeartbeats 16000000 in
set_option maxRecDepth 20000 in
theorem one_walk (W : World) (A : Option Addr) (n c : Nat) (l : List Cu.Sy) (hn : l.length = n) (hc : n ≤ 9223372036854775807) (hr : RowsOf Cu.Sy.cells 15 W A l) (hok : ∀ x ∈ l, x.Ok ∧ Flat x.f) :
    Calls Try.prog 3 #[.slice A n c] W fun e W' => e = .returned (.bool true) ∧ Below W.heap.size W W' := by
  have HR := Lib.hid hr
  have HOK := Lib.hid hok
  have HL := Lib.hid hn
  have HC := Lib.hid hc
  clear hn hr hok hc
  have HN1 := Lib.hid (new_ok W 1 2 rfl)
  go_enter Try.func3, Try.ntmps3
  go_upto_region 3 with (go_at_call 6; first | (refine HN1.out.mono ?_; rintro e w1 ⟨rfl, hT, hb, hz⟩; have H1 := Lib.hid (And.intro hT (And.intro hb hz)); clear hT hb hz HN1; have HN2 := Lib.hid (new_ok w1 2 1 rfl)) | (refine HN2.out.mono ?_; rintro e w2 ⟨rfl, hT, hb, hz⟩; have H2 := Lib.hid (And.intro hT (And.intro hb hz)); clear hT hb hz HN2))
  have HS := Lib.hid (wm_start H1.out.1 H1.out.2.1 H1.out.2.2 H2.out.1 H2.out.2.1 H2.out.2.2)
  go_upto_region 7 with fail
  obtain ⟨w3, hw3⟩ : ∃ w3, w3 = (w2.alloc (.cells #[.pointer (some ⟨W.heap.size, 0, none⟩), .pointer (some ⟨w1.heap.size, 0, none⟩)] 27)).alloc (.cells #[.slice none 0 0, .slice none 0 0] 29) := ⟨_, rfl⟩
  rw [← hw3] at HS ⊢
  obtain ⟨gt, hgt⟩ : ∃ g, g = w2.heap.size := ⟨_, rfl⟩
  obtain ⟨d1, hd1⟩ : ∃ d, d = W.heap.size := ⟨_, rfl⟩
  obtain ⟨d2, hd2⟩ : ∃ d, d = w1.heap.size := ⟨_, rfl⟩
  rw [← hgt, ← hd1, ← hd2] at HS
  (try rw [← hgt])
  (try rw [← hd1])
  (try rw [← hd2])
  obtain ⟨gw, hgw⟩ : ∃ g, g = gt + 1 := ⟨_, rfl⟩
  rw [← hgw] at HS
  (try rw [← hgw])
  have HI := Lib.hid (show Inv W w3 gt gw d1 d2 n 0 from ⟨_, _, _, _, _, _, HS.out, two_new, pot_new⟩)
  clear hw3 hgt hd1 hd2 hgw H1 H2 HS
  obtain ⟨NN, hNN⟩ : ∃ NN, NN = wrap64 ((n : Int) + 200) := ⟨_, rfl⟩
  have HNN := Lib.hid (show NN = (n : Int) + 200 ∧ n + 200 ≤ 9223372036854775807 ∨ NN < 0 ∧ 60 < n by rw [hNN]; exact nn_of n HC.out)
  have hwn := hNN.symm
  clear hNN
  go_upto_region 8 with fail
  go_loopw [9] (fun i wr => ∃ k : Nat, i = .int .i64 k ∧ (k = 0 ∨ (k : Int) ≤ NN) ∧ Inv W wr gt gw d1 d2 n k) (fun i _ => (NN - intOf i).toNat)
  case atStart => exact ⟨0, rfl, Or.inl rfl, HI.out⟩
  case round =>
    clear HI
    obtain ⟨k, rfl, hk, hI⟩ := hrel
    have HI := Lib.hid hI
    have HK := Lib.hid hk
    clear hI hk
    by_cases hlt : (k : Int) < NN
    · have HLT := Lib.hid (show (k : Int) < (n : Int) + 200 ∧ n + 200 ≤ 9223372036854775807 ∧ NN = (n : Int) + 200 by rcases HNN.out with h | h <;> omega)
      go_upto_region 10 with fail
      have HKN := Lib.hid hlt
      clear hlt
      go_upto_region 11 with (first | (refine wpList_build_lit _ rfl 35 _ rfl (built_sy k) ?_) | (refine wpList_store_blk rfl 35 _ _ rfl wr.heap.size 35 #[.int .i64 0, .bool false, .int .u64 0, .int .u32 0, .int .u32 0, .int .u32 0, .int .u32 0, .int .u32 0, .int .u32 0, .int .u32 0, .int .u32 0, .int .u32 0, .int .u32 0, .int .u32 0, .int .u32 0] (Cu.Sy.cells ⟨k, true, 0, fun _ => 0⟩).toArray rfl rfl (Blk.new' rfl) (syinfoA _) (by show 15 = _; rw [List.size_toArray, Cu.sy_len]) (all_oneCell_toArray (sy_ones _)) ?_; intro _; rw [Wr.alloc_setRow]))
      obtain ⟨tt, htt⟩ : ∃ tt, tt = decide (k < n ∧ n ≤ 60) := ⟨_, rfl⟩
      (try simp only [Act.put, List.setIfInBounds_toArray, List.set_cons_zero, List.set_cons_succ])
      go_cut [64] from 56 to 64 (fun v wx => v = .bool tt ∧ wx = wr.alloc (.cells (Cu.Sy.cells ⟨k, true, 0, fun _ => 0⟩).toArray 35))
      case first =>
        by_cases h1 : k < n
        · have i1 : (k : Int) < (n : Nat) := by omega
          by_cases h2 : n ≤ 60
          · have i2 : (n : Int) ≤ 60 := by omega
            have it : tt = true := by rw [htt]; exact decide_eq_true ⟨h1, h2⟩
            clear h1 h2 htt
            go_wp2_with fail
            go_meet
            exact ⟨by rw [it], rfl⟩
          · have i2 : ¬ (n : Int) ≤ 60 := by omega
            have it : tt = false := by rw [htt]; exact decide_eq_false fun h => h2 h.2
            clear h1 h2 htt
            go_wp2_with fail
            go_meet
            exact ⟨by rw [it], rfl⟩
        · have i1 : ¬ (k : Int) < (n : Nat) := by omega
          have it : tt = false := by rw [htt]; exact decide_eq_false fun h => h1 h.1
          clear h1 htt
          go_wp2_with fail
          go_meet
          exact ⟨by rw [it], rfl⟩
      case rest =>
        obtain ⟨rfl, rfl⟩ := hcut
        (try simp only [Act.put, List.setIfInBounds_toArray, List.set_cons_zero, List.set_cons_succ])
        go_upto_if 64 with fail
        go_cut [] from 56 to 68 (fun wx => ∃ x : Cu.Sy, wx = wr.alloc (.cells x.cells.toArray 35) ∧ x.t < 18446744073709551616 ∧ Flat x.f ∧ From n k x)
        case first =>
          by_cases h1 : k < n ∧ n ≤ 60
          · have it : tt = true := by rw [htt]; exact decide_eq_true h1
            clear htt
            subst it
            have i1 : (k : Int) < (n : Nat) := by omega
            have i0 : ¬ (k : Int) < 0 := by omega
            obtain ⟨x, hx⟩ : ∃ x, l[k]? = some x := ⟨_, List.getElem?_eq_getElem (by rw [HL.out]; exact h1.1)⟩
            obtain ⟨b, o, rfl, hbl, hrx⟩ := sy_at HR.out (HI.out.bel.trans (((Below.refl wr.heap.size wr).alloc (Nat.le_refl _) (.cells (Cu.Sy.cells ⟨k, true, 0, fun _ => 0⟩).toArray 35)).mono HI.out.bel.size)) hx
            have HX := Lib.hid (HOK.out x (List.mem_of_getElem? hx))
            have HF := Lib.hid h1
            clear h1 hx hbl
            go_wp2_with (first | (refine wpList_load_mid rfl 35 _ rfl _ _ rfl x.cells _ hrx Try.underlying35 rfl (syinfo x) ?_) | (refine wpList_store_blk rfl 35 _ _ rfl wr.heap.size 35 (Cu.Sy.cells ⟨k, true, 0, fun _ => 0⟩).toArray x.cells.toArray rfl rfl (Blk.new _ _ _) (syinfoA x) (by rw [List.size_toArray, List.size_toArray, Cu.sy_len, Cu.sy_len]) (all_oneCell_toArray (sy_ones x)) ?_; intro _; rw [Wr.alloc_setRow]))
            go_meet
            exact ⟨x, rfl, HX.out.1.t, HX.out.2, Or.inl HF.out⟩
          · have it : tt = false := by rw [htt]; exact decide_eq_false h1
            clear htt
            subst it
            have HF := Lib.hid h1
            clear h1
            go_wp2_with fail
            go_meet
            exact ⟨⟨k, true, 0, fun _ => 0⟩, rfl, by show 0 < 18446744073709551616; decide, ⟨fun i _ => rfl, fun i => by show 0 < 4294967296; decide⟩, Or.inr ⟨HF.out, rfl, rfl⟩⟩
        case rest =>
          clear htt
          obtain ⟨x, rfl, hxt, hxf, hfr⟩ := hcut
          obtain ⟨kk, hkk⟩ : ∃ kk, kk = k + 1 := ⟨_, rfl⟩
          have HKW := Lib.hid (show wrap64 ((k : Int) + 1) = ((kk : Nat) : Int) by rw [hkk]; exact wrap_k k (Or.inr ⟨n + 200, by have := HLT.out; omega, by have := HLT.out; omega⟩))
          have HKK := Lib.hid hkk
          clear hkk
          obtain ⟨h, oh, hh, hx2⟩ : ∃ h oh : Nat, h + oh = 1 ∧ x.hm % 2 = (h : Nat) := ⟨(x.hm % 2).toNat, 1 - (x.hm % 2).toNat, by omega, by omega⟩
          obtain ⟨dh, doh, o, p, a, b, vh, voh, mh, moh, hH, h2, h3⟩ := inv_h HI.out hh
          obtain ⟨w1, hw1⟩ : ∃ w1, w1 = wr.alloc (.cells x.cells.toArray 35) := ⟨_, rfl⟩
          have b1 : Blk w1 wr.heap.size 35 x.cells.toArray := by rw [hw1]; exact Blk.new _ _ _
          have hb1 : Below wr.heap.size wr w1 := by rw [hw1]; exact (Below.refl _ _).alloc (Nat.le_refl _) _
          rw [← hw1]
          obtain ⟨gb, hgb⟩ : ∃ gb, gb = wr.heap.size := ⟨_, rfl⟩
          rw [← hgb] at b1
          (try rw [← hgb])
          have HLEN := Lib.hid (two_len h2)
          have H1 := Lib.hid (hH.next hb1)
          have HB1 := Lib.hid hb1
          have HCU := Lib.hid (H1.out.cuts (by have := HLEN.out.1; omega) (Below.refl w1.heap.size w1))
          have H2 := Lib.hid h2
          have H3 := Lib.hid h3
          have HFR := Lib.hid hfr
          have HX2 := Lib.hid hx2
          have HXF := Lib.hid (And.intro hxt hxf)
          have HBX := Lib.hid b1
          have HGB := Lib.hid hgb
          have HH := Lib.hid hh
          have c0 : w1.cell? ⟨gb, 0, none⟩ = some (.int .i64 x.hm) := b1.cell 0
          have ct : w1.cell? ⟨gt, h, none⟩ = some (.pointer (some ⟨dh, 0, none⟩)) := H1.out.tab
          have hand : bits .and .i64 x.hm 1 = ((h : Nat) : Int) := by rw [i64_and1, hx2]
          obtain ⟨la, hla⟩ : ∃ la, la = a.cs.length := ⟨_, rfl⟩
          obtain ⟨R1, hR1⟩ : ∃ R1, R1 = la + 1 := ⟨_, rfl⟩
          have hwR : wrap64 ((la : Int) + 1) = ((R1 : Nat) : Int) := by rw [hR1]; exact wrap_k la (Or.inl (by have := HLEN.out.1; omega))
          rw [← hla] at HCU
          have HLA := Lib.hid hla
          have HR1 := Lib.hid hR1
          have k1 : ¬ ((h : Nat) : Int) < 0 := by omega
          have k2 : ((h : Nat) : Int) < 2 := by omega
          have k3 : h < 2 := by omega
          clear hw1 b1 hb1 hgb hH h2 h3 hfr hx2 hxt hxf hh hla hR1
          cases hg : x.g with
          | false =>
            have HG := Lib.hid hg
            have HF := Lib.hid (from_prop HFR.out hg)
            clear hg
            go_upto_region 17 with (first | (go_at_call 7; refine HCU.out.mono ?_; rintro e w4 ⟨Ac, cc, rfl, hb4, -⟩; have c4 : w4.cell? ⟨gb, 1, none⟩ = some (.bool false) := (by rw [← HG.out]; exact (HBX.out.next hb4).cell 1); have HB4 := Lib.hid hb4; clear hb4 HCU))
            rw [hwR]
            clear c0 c4 ct hand hwR
            have H4 := Lib.hid (H1.out.next HB4.out)
            have b4 := HBX.out.next HB4.out
            have c2 : w4.cell? ⟨gb, 2, none⟩ = some (.int .u64 (x.t : Nat)) := b4.cell 2
            have rv : w4.rangeAt gb 3 (vl x.f) := fun j u hj => by rw [b4.cell, List.getElem?_toArray, Cu.sy_3, hj]
            have HP := Lib.hid (H4.out.prop (by have := HLEN.out.1; omega) (Below.refl w4.heap.size w4) x.t x.f)
            obtain ⟨E, hE⟩ : ∃ E, E = propE a.cs a.a ⟨true, x.t, x.f⟩ := ⟨_, rfl⟩
            rw [← hE] at HP
            have HE := Lib.hid hE
            clear hE b4
            go_upto_region 18 with (first | (refine wpList_load_mid rfl 33 _ rfl _ _ rfl (vl x.f) _ rv Try.underlying33 rfl (vinfoL _) ?_) | (go_at_call 8; refine HP.out.mono ?_; rintro e w5 ⟨⟨z, rfl, hz⟩, h5⟩; have H5 := Lib.hid h5; have HZ := Lib.hid hz; clear h5 hz HP) | (refine wpList_store_blk rfl 39 _ _ rfl w5.heap.size 39 #[.bool false, .int .u64 0, .int .u32 0, .int .u32 0, .int .u32 0, .int .u32 0, .int .u32 0, .int .u32 0, .int .u32 0, .int .u32 0, .int .u32 0, .int .u32 0, .int .u32 0, .int .u32 0] z.cells.toArray rfl rfl (Blk.new' rfl) (stinfoA z) (by show 14 = _; rw [List.size_toArray, st_len]) (all_oneCell_toArray (st_ones z)) ?_; intro _; rw [Wr.alloc_setRow]))
            clear c2 rv
            obtain ⟨w6, hw6⟩ : ∃ w6, w6 = w5.alloc (.cells z.cells.toArray 39) := ⟨_, rfl⟩
            have b6 : Blk w6 w5.heap.size 39 z.cells.toArray := by rw [hw6]; exact Blk.new _ _ _
            have hb6 : Below w5.heap.size w5 w6 := by rw [hw6]; exact (Below.refl _ _).alloc (Nat.le_refl _) _
            rw [← hw6]
            have H6 := Lib.hid (H5.out.next hb6)
            obtain ⟨gz, hgz⟩ : ∃ gz, gz = w5.heap.size := ⟨_, rfl⟩
            rw [← hgz] at b6
            (try rw [← hgz])
            have HB6 := Lib.hid b6
            clear hw6 hb6 hgz b6 H5
            by_cases hE0 : E = 0
            · subst hE0
              have HE0 := Lib.hid HE.out.symm
              have hz := HZ.out rfl
              go_upto_region 19 with fail
              subst hz
              obtain ⟨Ao, co, hvo⟩ := H6.out.own.2.shape
              subst hvo
              obtain ⟨lo, hlo⟩ : ∃ lo, lo = moh.length := ⟨_, rfl⟩
              have HLO := Lib.hid hlo
              have cw := H6.out.way.2
              rw [← hlo] at cw
              have rz : w6.rangeAt gz 0 (St.cells ⟨true, x.t, x.f⟩) := HB6.out.range
              have e1 : IntKind.i64.wrap (1 - ((h : Nat) : Int)) = ((oh : Nat) : Int) := by have := HH.out; rw [IntKind.wrap_i64]; omega
              have e2 : wrap64 (1 - ((h : Nat) : Int)) = ((oh : Nat) : Int) := by have := HH.out; unfold wrap64; omega
              have k4 : ¬ ((oh : Nat) : Int) < 0 := by omega
              have k5 : ((oh : Nat) : Int) < 2 := by have := HH.out; omega
              have k6 : oh < 2 := by have := HH.out; omega
              clear hlo HE HZ
              have hcc : w6.cell? ⟨gw, oh, none⟩ = some (.slice Ao lo co) ∧ w6.rangeAt gz 0 (St.cells ⟨true, x.t, x.f⟩) := ⟨cw, rz⟩
              clear cw rz k1 k2 k3
              obtain ⟨zz, hzz⟩ : ∃ zz : St, zz = ⟨true, x.t, x.f⟩ := ⟨_, rfl⟩
              rw [← hzz] at hcc
              have HZZ := Lib.hid hzz
              clear hzz
              refine wp_region_tree (S := fun w' => w'.cell? ⟨gw, oh, none⟩ = some (.slice Ao lo co) ∧ w'.rangeAt gz 0 zz.cells) (.take 0 (.take 1 (.take 2 (.take 3 (.take 4 (.take 5 (.take 6 (.take 7 (.take 8 (.one 9 (.one 10 (.take 11 (.last 12))))))))))))) 12 (by kernel_rfl) (by kernel_rfl) (by kernel_rfl) (by kernel_rfl) (by kernel_rfl) (fun _ _ d _ _ h => by cases d <;> exact h) hcc (fun hHeld => ?_)
              simp only [Tree.map, List.getElem?_toArray, List.getElem?_cons_zero, List.getElem?_cons_succ]
              (repeat (first | (refine wpTree.take (v := undef) (Or.inr ⟨by rfl, rfl⟩) ?_; simp only [Act.put, List.setIfInBounds_toArray, List.set_cons_zero, List.set_cons_succ]) | (refine wpTree.take (v := .agg zz.cells.toArray) (yieldsIf_load_mid rfl 39 _ rfl _ _ rfl zz.cells _ (fun _ hS => hS.2) Try.underlying39 rfl (stinfo zz)) ?_; simp only [Act.put, List.setIfInBounds_toArray, List.set_cons_zero, List.set_cons_succ]) | (refine wpTree.take (yields_build (wyc (R1, zz)).toArray rfl 43 _ rfl (built_wy R1 zz)) ?_; simp only [Act.put, List.setIfInBounds_toArray, List.set_cons_zero, List.set_cons_succ]) | (refine wpTree.take (v := ?_) (Or.inl ⟨by rfl, ?_⟩) ?_; rotate_left; (focus (intro _ hS; (try dsimp only at hS); go_split_ands; (try subst hS); go_simp; (try (with_reducible rfl)); done)); simp only [Act.put, List.setIfInBounds_toArray, List.set_cons_zero, List.set_cons_succ])))
              clear hcc e1 e2
              have hb7 : Below w6.heap.size w6 (w6.drew.alloc (.cells (wyc (R1, zz)).toArray 43)) := ((Below.refl w6.heap.size w6).drew).alloc (Nat.le_refl _) _
              have hs7 : ∀ (j : Nat) (u : Value), (wyc (R1, zz))[j]? = some u → (w6.drew.alloc (.cells (wyc (R1, zz)).toArray 43)).cell? ((⟨w6.drew.heap.size, 0, none⟩ : Addr).add j) = some u := fun j u hj => by
                rw [Opn.add_plain, Nat.zero_add, (Blk.new _ _ _).cell, List.getElem?_toArray]; exact hj
              refine wpTree.one (fun K hK => ?_)
              rw [if_pos (by rfl)]
              refine wp_bsw _ rfl rfl ?_
              obtain ⟨w7, hw7⟩ : ∃ w7, w7 = w6.drew.alloc (.cells (wyc (R1, zz)).toArray 43) := ⟨_, rfl⟩
              rw [← hw7] at hb7 hs7 ⊢
              have H7 := Lib.hid (H6.out.next hb7)
              have HB7 := Lib.hid (HB6.out.next hb7)
              refine hK.out _ _ ⟨by rw [HLO.out]; exact H7.out.way.2, by rw [HZZ.out]; exact HB7.out.range⟩ (fun _ => ?_)
              clear hK K hHeld hw7 hb7
              (try simp only [Act.put, List.setIfInBounds_toArray, List.set_cons_zero, List.set_cons_succ])
              have hown : OffR w7 W.heap.size 43 15 (.slice Ao lo co) moh.length (wys moh) := by rw [HLO.out]; exact H7.out.own.2
              refine wpTree.one (fun K hK => ?_)
              rw [if_pos (by rfl)]
              refine wp_app_wy w7 _ _ rfl W.heap.size (.slice Ao lo co) moh rfl hown _ 1 (R1, zz) rfl hs7 (by have := HLEN.out.2.2.2; omega) H7.out.bel.size ?_
              intro v9 w9 hown9 hg9 hloc9
              obtain ⟨A9, c9, hv9⟩ := hown9.shape
              obtain ⟨l9, hl9⟩ : ∃ l9, l9 = (moh ++ [(R1, zz)]).length := ⟨_, rfl⟩
              rw [← hl9] at hv9
              clear hl9
              subst hv9
              obtain ⟨cs, hbk, hbo, -⟩ := H7.out.blk
              have hbk9 : Blk w9 gw 29 cs := (hg9.block gw hbk.lt (off_ne hown hbk (by decide))).trans hbk
              have hbz9 : Blk w9 gz 39 (St.cells ⟨true, x.t, x.f⟩).toArray := (hg9.block gz HB7.out.lt (off_ne hown HB7.out (by decide))).trans HB7.out
              have cw9 : w9.cell? ⟨gw, oh, none⟩ = some (.slice Ao lo co) := by rw [HLO.out]; exact (hbk9.cell oh).trans hbo
              have zw9 := hbk9.frozen oh
              refine hK.out _ _ ⟨cw9, by rw [HZZ.out]; exact hbz9.range⟩ (fun _ => ?_)
              clear hK K hs7 hown hbk hbk9 hbz9 hbo
              (try simp only [Act.put, List.setIfInBounds_toArray, List.set_cons_zero, List.set_cons_succ])
              (repeat (first | (refine wpTree.take (v := undef) (Or.inr ⟨by rfl, rfl⟩) ?_; simp only [Act.put, List.setIfInBounds_toArray, List.set_cons_zero, List.set_cons_succ]) | (refine wpTree.take (v := ?_) (Or.inl ⟨by rfl, ?_⟩) ?_; rotate_left; (focus (intro _ hS; (try dsimp only at hS); go_split_ands; (try subst hS); go_simp; (try (with_reducible rfl)); done)); simp only [Act.put, List.setIfInBounds_toArray, List.set_cons_zero, List.set_cons_succ])))
              have HIN := Lib.hid (show Inv W (w9.setCell ⟨gw, oh, none⟩ (.slice A9 l9 c9)) gt gw d1 d2 n (k + 1) from by
                have ht := two_prop H6.out.lt.2.2.1 H6.out.lt.2.2.2.1 H6.out.lt.2.2.2.2 H2.out HXF.out.2 HXF.out.1 HE0.out
                rw [← HLA.out, ← HR1.out, ← HZZ.out] at ht
                exact inv_list (H7.out.set hown9 (by rw [← HLO.out]; exact hg9) (by rw [← HLO.out]; exact hloc9)) ht HF.out)
              clear hown9 hg9 hloc9
              refine wpTree.last (fun K hK => ?_)
              go_simp
              refine hK.out _ _ ?_
              clear hK K cw9 zw9
              (try simp only [Act.put, List.setIfInBounds_toArray, List.set_cons_zero, List.set_cons_succ])
              go_wp2_with fail
              rw [HKW.out]
              go_roundw
              case rel => exact ⟨kk, rfl, Or.inr (by have := HLT.out; have := HKK.out; omega), by
                rw [HKK.out]
                exact HIN.out⟩
              case measure => exact one_meas HKK.out HKN.out
            · have HE0 := Lib.hid hE0
              clear HB6 HZ
              go_wp2_with fail
              rw [HKW.out]
              go_roundw
              case rel => exact ⟨kk, rfl, Or.inr (by have := HLT.out; have := HKK.out; omega), by
                rw [HKK.out]
                have e : TS.propG o p a x.t x.f = a := by unfold TS.propG; rw [if_neg (by rw [← HE.out]; exact HE0.out)]
                have h := H6.out
                rw [e] at h
                exact inv_list h H2.out HF.out⟩
              case measure => exact one_meas HKK.out HKN.out
          | true =>
            have HG := Lib.hid hg
            clear hg
            go_upto_region 20 with (first | (go_at_call 7; refine HCU.out.mono ?_; rintro e w4 ⟨Ac, cc, rfl, hb4, -⟩; have c4 : w4.cell? ⟨gb, 1, none⟩ = some (.bool true) := (by rw [← HG.out]; exact (HBX.out.next hb4).cell 1); have HB4 := Lib.hid hb4; clear hb4 HCU))
            rw [hwR]
            clear c0 c4 ct hand hwR
            have H4 := Lib.hid (H1.out.next HB4.out)
            rcases hm : mh with _ | ⟨⟨r, y⟩, mt⟩
            · subst hm
              obtain ⟨Ah, ch, hvh⟩ := H4.out.own.1.shape
              subst hvh
              have cw : w4.cell? ⟨gw, h, none⟩ = some (.slice Ah 0 ch) := H4.out.way.1
              go_wp2_with fail
              rw [HKW.out]
              go_roundw
              case rel => exact ⟨kk, rfl, Or.inr (by have := HLT.out; have := HKK.out; omega), by
                rw [HKK.out]
                exact inv_skip H4.out H2.out H3.out HFR.out HX2.out⟩
              case measure => exact one_meas HKK.out HKN.out
            · subst hm
              obtain ⟨q, qo, qc, hvh, hqc, hqW, hql⟩ := H4.out.own.1.lies (by simp)
              obtain ⟨lh, hlh⟩ : ∃ lh, lh = ((r, y) :: mt).length := ⟨_, rfl⟩
              rw [← hlh] at hvh hqc
              have HLH := Lib.hid (show lh = mt.length + 1 from hlh)
              have hTH := two_hear H1.out.lt.2.2.1 H1.out.lt.2.2.2.1 H1.out.lt.2.2.2.2 H2.out
              have HTH := Lib.hid hTH
              have hown := H4.out.own.1
              rw [← hlh, hvh] at hown
              have HOWN := Lib.hid hown
              clear hTH hlh
              subst hvh
              have cw : w4.cell? ⟨gw, h, none⟩ = some (.slice (some ⟨q, qo, none⟩) lh qc) := H4.out.way.1
              have rw4 : w4.rangeAt q qo (wyc (r, y)) := fun j u hj => hown.cells rfl j u (by
                rw [wys_cons, List.getElem?_append_left (by have := (List.getElem?_eq_some_iff.1 hj).1; exact this)]; exact hj)
              have HQ := Lib.hid (And.intro hqc (And.intro hqW hql))
              have n1 : ¬ ((lh : Nat) : Int) = 0 := by have := HLH.out; omega
              have n2 : (((lh : Nat) : Int) == 0) = false := by simpa using n1
              have n3 : ¬ lh = 0 := by have := HLH.out; omega
              clear hown hqc hqW hql
              go_upto_region 21 with fail
              clear n1 n2 n3
              have n4 : 0 < lh := by have := HLH.out; omega
              have n5 : (0 : Int) < ((lh : Nat) : Int) := by omega
              go_upto_region 22 with (first | (refine wpList_load_mid rfl 43 _ rfl _ _ rfl (wyc (r, y)) _ rw4 Try.underlying43 rfl (wyinfo (r, y)) ?_) | (refine wpList_store_blk rfl 43 _ _ rfl w4.heap.size 43 z15.toArray (wyc (r, y)).toArray rfl rfl (Blk.new' rfl) (wyinfoA (r, y)) (by show 15 = _; rw [List.size_toArray, wyc_len]) (all_oneCell_toArray (wyc_ones (r, y))) ?_; intro _; rw [Wr.alloc_setRow]))
              clear n4 n5 rw4 cw
              obtain ⟨w5, hw5⟩ : ∃ w5, w5 = w4.alloc (.cells (wyc (r, y)).toArray 43) := ⟨_, rfl⟩
              have b5 : Blk w5 w4.heap.size 43 (wyc (r, y)).toArray := by rw [hw5]; exact Blk.new _ _ _
              have hb5 : Below w4.heap.size w4 w5 := by rw [hw5]; exact (Below.refl _ _).alloc (Nat.le_refl _) _
              rw [← hw5]
              have H5 := Lib.hid (H4.out.next hb5)
              have HOW5 := Lib.hid (HOWN.out.next hb5)
              have HBY := Lib.hid b5
              have HLT5 := Lib.hid (show w4.heap.size < w5.heap.size from b5.lt)
              obtain ⟨gy, hgy⟩ : ∃ gy, gy = w4.heap.size := ⟨_, rfl⟩
              rw [← hgy] at HBY
              (try rw [← hgy])
              clear hw5 b5 hb5 hgy HOWN
              obtain ⟨cs, hbk, -, hbh⟩ := H5.out.blk
              have cw5 : w5.cell? ⟨gw, h, none⟩ = some (.slice (some ⟨q, qo, none⟩) lh qc) := H5.out.way.1
              have zw5 := hbk.frozen h
              have HGY := Lib.hid (show gy ≠ gw from fun e => by
                have h1 := HBY.out
                rw [e] at h1
                unfold Blk at h1 hbk
                rw [h1] at hbk
                simp only [Option.some.injEq, Obj.cells.injEq] at hbk
                exact absurd hbk.2.1 (by decide))
              have s1 : 1 ≤ lh := by have := HLH.out; omega
              have s2 : lh ≤ qc := HQ.out.1
              clear hbk hbh
              go_upto_region 23 with fail
              clear cw5 zw5 s1 s2 k1 k2 k3
              obtain ⟨v9, hv9⟩ : ∃ v9, v9 = Value.slice (if qc = 1 then some ⟨q, qo, none⟩ else some ⟨q, qo + 15, none⟩) (lh - 1) (qc - 1) := ⟨_, rfl⟩
              rw [← hv9]
              have ht : OffR w5 W.heap.size 43 15 v9 mt.length (wys mt) := by
                have h1 := HOW5.out
                have e := HLH.out
                rw [e, wys_cons] at h1
                have h2 := h1.tail (wyc_len _)
                rw [hv9, e, Nat.add_sub_cancel]
                exact h2
              have ho9 : v9.ownBlock = (Value.slice (some ⟨q, qo, none⟩) lh qc).ownBlock := by
                rw [hv9]
                split <;> rfl
              have H6 := Lib.hid (H5.out.pop (w9 := w5) ht ⟨rfl, rfl, rfl, Nat.le_refl _, fun k _ _ => rfl⟩ (Or.inl ho9))
              have by6 : Blk (w5.setCell ⟨gw, h, none⟩ v9) gy 43 (wyc (r, y)).toArray := (Below.heap_setCell w5 ⟨gw, h, none⟩ v9 gy HGY.out).trans HBY.out
              obtain ⟨w6, hw6⟩ : ∃ w6, w6 = w5.setCell ⟨gw, h, none⟩ v9 := ⟨_, rfl⟩
              rw [← hw6] at H6 by6 ⊢
              clear hw6 ht ho9 hv9 H5 HOW5 HBY HLT5 HGY HQ
              have c0 : w6.cell? ⟨gy, 0, none⟩ = some (.int .i64 (r : Nat)) := by rw [by6.cell, List.getElem?_toArray]; exact wyc_0 _
              have rv : w6.rangeAt gy 1 y.cells := fun j u hj => by rw [by6.cell, List.getElem?_toArray, wyc_1, hj]
              have HHR := Lib.hid (H6.out.hear (by have := HLEN.out.1; omega) (Below.refl w6.heap.size w6) (r : Nat) y HTH.out.1)
              have HWT := Lib.hid (two_less (a := a) (tb := moh) (ta := mt) (x := y) (r := r))
              have HTW := Lib.hid HTH.out.2.2
              obtain ⟨pb, hpb⟩ : ∃ pb, pb = promP a.a y := ⟨_, rfl⟩
              rw [← hpb] at HHR HWT HTW
              rw [← HLA.out, ← HR1.out] at HWT HTW
              clear hpb by6 HTH
              go_upto_region 26 with (first | (refine wpList_load_mid rfl 39 _ rfl _ _ rfl y.cells _ rv Try.underlying39 rfl (stinfo y) ?_) | (go_at_call 9; refine HHR.out.mono ?_; rintro e w7 ⟨rfl, h7⟩; have H7 := Lib.hid h7; clear h7 HHR))
              clear c0 rv H6
              go_upto_if 136 with fail
              go_cut [] from 137 to 148 (fun wx => Inv W wx gt gw d1 d2 n kk)
              case first =>
                cases pb with
                | false =>
                  go_wp2_with fail
                  go_meet
                  rw [HKK.out]
                  exact inv_hear H7.out HTW.out H3.out HFR.out HWT.out
                | true =>
                  obtain ⟨Ao, co, hvo⟩ := H7.out.own.2.shape
                  subst hvo
                  obtain ⟨lo, hlo⟩ : ∃ lo, lo = moh.length := ⟨_, rfl⟩
                  have HLO := Lib.hid hlo
                  have cw : w7.cell? ⟨gw, oh, none⟩ = some (.slice Ao lo co) := by rw [hlo]; exact H7.out.way.2
                  have e1 : IntKind.i64.wrap (1 - ((h : Nat) : Int)) = ((oh : Nat) : Int) := by have := HH.out; rw [IntKind.wrap_i64]; omega
                  have e2 : wrap64 (1 - ((h : Nat) : Int)) = ((oh : Nat) : Int) := by have := HH.out; unfold wrap64; omega
                  have k4 : ¬ ((oh : Nat) : Int) < 0 := by omega
                  have k5 : ((oh : Nat) : Int) < 2 := by have := HH.out; omega
                  have k6 : oh < 2 := by have := HH.out; omega
                  have hb8 : Below w7.heap.size w7 (w7.alloc (.cells (wyc (R1, St.zero)).toArray 43)) := (Below.refl w7.heap.size w7).alloc (Nat.le_refl _) _
                  have hs8 : ∀ (j : Nat) (u : Value), (wyc (R1, St.zero))[j]? = some u → (w7.alloc (.cells (wyc (R1, St.zero)).toArray 43)).cell? ((⟨w7.heap.size, 0, none⟩ : Addr).add j) = some u := fun j u hj => by
                    rw [Opn.add_plain, Nat.zero_add, (Blk.new _ _ _).cell, List.getElem?_toArray]; exact hj
                  have HS8 := Lib.hid hs8
                  have H8 := Lib.hid (H7.out.next hb8)
                  have hown : OffR (w7.alloc (.cells (wyc (R1, St.zero)).toArray 43)) W.heap.size 43 15 (.slice Ao lo co) moh.length (wys moh) := by rw [hlo]; exact H8.out.own.2
                  have HOWN := Lib.hid hown
                  clear hlo hb8 hs8 hown
                  go_wp2_with (first | (refine wpList_build_g 39 _ rfl rfl St.zero.cells.toArray built_stz ?_; (try simp only [Act.put, List.setIfInBounds_toArray, List.set_cons_zero, List.set_cons_succ])) | (refine wpList_build_g 43 _ rfl rfl (wyc (R1, St.zero)).toArray (built_wy R1 St.zero) ?_; (try simp only [Act.put, List.setIfInBounds_toArray, List.set_cons_zero, List.set_cons_succ])) | (refine wpList_plain rfl fun K hK => ?_; refine wp_bsw (m := (R1, St.zero)) _ rfl rfl ?_; refine hK _ _ ?_; clear hK K cw; (try simp only [Act.put, List.setIfInBounds_toArray, List.set_cons_zero, List.set_cons_succ])) | (refine wpList_plain rfl fun K hK => ?_; refine wp_app_wy _ _ _ rfl W.heap.size (.slice Ao lo co) moh rfl HOWN.out _ 1 (R1, St.zero) rfl HS8.out (by have := HLEN.out.2.2.2; omega) H8.out.bel.size ?_; intro v9 w9 hown9 hg9 hloc9; obtain ⟨A9, c9, hv9⟩ := hown9.shape; obtain ⟨l9, hl9⟩ : ∃ l9, l9 = (moh ++ [(R1, St.zero)]).length := ⟨_, rfl⟩; rw [← hl9] at hv9; clear hl9; subst hv9; obtain ⟨cs, hbk, hbo, -⟩ := H8.out.blk; have hbk9 : Blk w9 gw 29 cs := (hg9.block gw hbk.lt (off_ne HOWN.out hbk (by decide))).trans hbk; have cw9 : w9.cell? ⟨gw, oh, none⟩ = some (.slice Ao lo co) := (by rw [HLO.out]; exact (hbk9.cell oh).trans hbo); have zw9 := hbk9.frozen oh; have HO9 := Lib.hid (And.intro hown9 (And.intro hg9 hloc9)); refine hK _ _ ?_; clear hK K hbk hbk9 hbo hown9 hg9 hloc9; (try simp only [Act.put, List.setIfInBounds_toArray, List.set_cons_zero, List.set_cons_succ])))
                  go_meet
                  rw [HKK.out]
                  exact inv_hear (H8.out.set HO9.out.1 (by rw [← HLO.out]; exact HO9.out.2.1) (by rw [← HLO.out]; exact HO9.out.2.2)) HTW.out H3.out HFR.out HWT.out
              case rest =>
                (try simp only [Act.put, List.setIfInBounds_toArray, List.set_cons_zero, List.set_cons_succ])
                have hI := hcut
                have HI9 := Lib.hid hcut
                clear hcut
                obtain ⟨a2, b2, u0, u1, l0, l1, hW, hT2, hP2⟩ := hI
                have HLN := Lib.hid (two_len hT2)
                have HT2 := Lib.hid hT2
                obtain ⟨F1, hF1⟩ := hW.td.one
                obtain ⟨F2, hF2⟩ := hW.td.symm.one
                have HC1 := Lib.hid (cuts_tg _ hF1 (by have := HLN.out.1; omega))
                have HF2 := Lib.hid hF2
                clear hW hT2 hP2 hF1 hF2
                go_upto_region 29 with (go_at_call 7; first | (refine HC1.out.mono ?_; rintro e x1 ⟨X1, xc1, rfl, hb1, hr1⟩; have HX1 := Lib.hid hr1; have HXB := Lib.hid hb1; have HC2 := Lib.hid (cuts_tg x1 (HF2.out.next hb1) (by have := HLN.out.2.1; omega)); clear hb1 hr1 HC1) | (refine HC2.out.mono ?_; rintro e x2 ⟨X2, xc2, rfl, hb2, hr2⟩; have HX2r := Lib.hid hr2; have HXB2 := Lib.hid hb2; clear hb2 hr2 HC2))
                obtain ⟨na, hna⟩ : ∃ na, na = a2.cs.length := ⟨_, rfl⟩
                obtain ⟨nb, hnb⟩ : ∃ nb, nb = b2.cs.length := ⟨_, rfl⟩
                rw [← hna, ← hnb]
                have HNA := Lib.hid hna
                have HNB := Lib.hid hnb
                clear hna hnb
                have HI2 := Lib.hid ((HI9.out.next HXB.out).next HXB2.out)
                clear HI9 HF2
                go_upto_region 30 with fail
                go_loopw [21] (fun i wy => ∃ j : Nat, j ≤ na ∧ j ≤ nb ∧ i = .int .i64 j ∧ Below x2.heap.size x2 wy) (fun i _ => na - (intOf i).toNat)
                case atStart => exact ⟨0, Nat.zero_le _, Nat.zero_le _, rfl, Below.refl _ _⟩
                case round =>
                  obtain ⟨j, hja, hjb, rfl, hbj⟩ := hrel
                  have HBJ := Lib.hid hbj
                  clear hbj
                  by_cases h1 : j < na
                  · have i1 : ((j : Nat) : Int) < (na : Nat) := by omega
                    by_cases h2 : j < nb
                    · have i2 : ((j : Nat) : Int) < (nb : Nat) := by omega
                      have i3 : ¬ ((j : Nat) : Int) < 0 := by omega
                      obtain ⟨y1, hy1⟩ : ∃ y, a2.cs[j]? = some y := ⟨_, List.getElem?_eq_getElem (by rw [← HNA.out]; exact h1)⟩
                      obtain ⟨y2, hy2⟩ : ∃ y, b2.cs[j]? = some y := ⟨_, List.getElem?_eq_getElem (by rw [← HNB.out]; exact h2)⟩
                      have hyy := two_agree (by decide) (by decide) (by decide) HT2.out hy1 hy2
                      subst hyy
                      obtain ⟨g1, rfl, hg1, hr1⟩ := HX1.out j y1 hy1
                      obtain ⟨g2, rfl, hg2, hr2⟩ := HX2r.out j y1 hy2
                      have q1 : wr.rangeAt g1 (j * 14) y1.cells := fun i u hi => ((HXB2.out.trans (HBJ.out.mono HXB2.out.size)).cell (p := ⟨g1, _, none⟩) hg1).trans (hr1 i u hi)
                      have q2 : wr.rangeAt g2 (j * 14) y1.cells := fun i u hi => (HBJ.out.cell (p := ⟨g2, _, none⟩) hg2).trans (hr2 i u hi)
                      obtain ⟨jj, hjj⟩ : ∃ jj, jj = j + 1 := ⟨_, rfl⟩
                      have HJW := Lib.hid (show wrap64 ((j : Int) + 1) = ((jj : Nat) : Int) by rw [hjj]; exact wrap_k j (Or.inl (by have := HNA.out; have := HLN.out.1; omega)))
                      have HJJ := Lib.hid (show jj = j + 1 ∧ j < na ∧ j < nb from ⟨hjj, h1, h2⟩)
                      have eq1 := eqCt_run y1 y1 rfl
                      clear hy1 hy2 hr1 hr2 hjj hja hjb hg1 hg2
                      have hqq : wr.rangeAt g1 (j * 14) y1.cells ∧ wr.rangeAt g2 (j * 14) y1.cells := ⟨q1, q2⟩
                      clear q1 q2
                      go_upto_region 32 with fail
                      refine wp_region_tree (S := (fun w' => w'.rangeAt g1 (j * 14) y1.cells ∧ w'.rangeAt g2 (j * 14) y1.cells)) (.take 0 (.take 1 (.take 2 (.take 3 (.take 4 (.take 5 (.take 6 (.take 7 (.take 8 .nil))))))))) 9999 (by kernel_rfl) (by kernel_rfl) (by kernel_rfl) (by kernel_rfl) (by kernel_rfl) (fun _ _ d _ _ h => by cases d <;> exact h) hqq (fun hHeld => ?_); simp only [Tree.map, List.getElem?_toArray, List.getElem?_cons_zero, List.getElem?_cons_succ]
                      (repeat (first | (refine wpTree.take (v := undef) (Or.inr ⟨by rfl, rfl⟩) ?_; simp only [Act.put, List.setIfInBounds_toArray, List.set_cons_zero, List.set_cons_succ]) | (refine wpTree.take (v := .agg y1.cells.toArray) (yieldsIf_load_mid rfl 47 _ rfl _ _ rfl y1.cells _ (fun _ hS => hS.1) Try.underlying47 rfl (ctinfo _)) ?_; simp only [Act.put, List.setIfInBounds_toArray, List.set_cons_zero, List.set_cons_succ]) | (refine wpTree.take (v := .agg y1.cells.toArray) (yieldsIf_load_mid rfl 47 _ rfl _ _ rfl y1.cells _ (fun _ hS => hS.2) Try.underlying47 rfl (ctinfo _)) ?_; simp only [Act.put, List.setIfInBounds_toArray, List.set_cons_zero, List.set_cons_succ]) | (refine wpTree.take (v := ?_) (Or.inl ⟨by rfl, ?_⟩) ?_; rotate_left; (focus (intro _ hS; (try dsimp only at hS); go_split_ands; (try subst hS); go_simp; (try (with_reducible rfl)); done)); simp only [Act.put, List.setIfInBounds_toArray, List.set_cons_zero, List.set_cons_succ])))
                      refine wpTree.done ?_
                      clear hHeld hqq eq1 i1 i2 i3 h1 h2
                      go_wp2_with fail
                      rw [HJW.out]
                      go_roundw
                      case rel => exact ⟨jj, by have := HJJ.out; omega, by have := HJJ.out; omega, rfl, HBJ.out.drew⟩
                      case measure => exact one_meas2 HJJ.out.1 HJJ.out.2.1
                    · have i2 : ¬ ((j : Nat) : Int) < (nb : Nat) := by omega
                      clear h1 h2 hja hjb
                      go_wp2_with fail
                      rw [HKW.out]
                      go_roundw
                      case rel => exact ⟨kk, rfl, Or.inr (by have := HLT.out; have := HKK.out; omega), HI2.out.next HBJ.out⟩
                      case measure => exact one_meas HKK.out HKN.out
                  · have i1 : ¬ ((j : Nat) : Int) < (na : Nat) := by omega
                    clear h1 hja hjb
                    go_wp2_with fail
                    rw [HKW.out]
                    go_roundw
                    case rel => exact ⟨kk, rfl, Or.inr (by have := HLT.out; have := HKK.out; omega), HI2.out.next HBJ.out⟩
                    case measure => exact one_meas HKK.out HKN.out
    · have HE := Lib.hid (show 60 < n ∨ k = n + 200 by
        rcases HNN.out with h | h
        · rcases HK.out with h1 | h1 <;> omega
        · exact Or.inl h.2)
      have hI := HI.out
      obtain ⟨a, b, v0, v1, m0, m1, hW, h2, h3⟩ := hI
      obtain ⟨rfl, rfl⟩ := pot_end h3 HE.out
      obtain ⟨A0, c0, hv0⟩ := hW.o0.shape
      obtain ⟨A1, c1, hv1⟩ := hW.o1.shape
      subst hv0 hv1
      have HEQ := Lib.hid (two_end h2)
      have HLN := Lib.hid (two_len h2)
      have HW := Lib.hid hW
      have HAL := Lib.hid (alive_any wr)
      clear hW h2 h3
      have i1 : ¬ (k : Int) < NN := hlt
      clear hlt
      obtain ⟨na, hna⟩ : ∃ na, na = a.cs.length := ⟨_, rfl⟩
      have HNA := Lib.hid hna
      clear hna
      go_upto_region 34 with fail
      clear i1
      go_wp2_with (first | (go_at_call 10; refine HAL.out.mono ?_; rintro e w5 ⟨rfl, hb5⟩; have HB5 := Lib.hid hb5; have hw5 := HW.out.next hb5; have c50 : w5.cell? ⟨gw, 0, none⟩ = some (.slice A0 0 c0) := hw5.bw.cell 0; have c51 : w5.cell? ⟨gw, 1, none⟩ = some (.slice A1 0 c1) := hw5.bw.cell 1; obtain ⟨F1, hF1⟩ := hw5.td.one; obtain ⟨F2, hF2⟩ := hw5.td.symm.one; have HC1 := Lib.hid (cuts_tg _ hF1 (by have := HLN.out.1; omega)); rw [← HNA.out] at HC1; have HF2 := Lib.hid hF2; clear hb5 hw5 hF1 hF2 HAL) | (go_at_call 7; first | (refine HC1.out.mono ?_; rintro e x1 ⟨X1, xc1, rfl, hb1, -⟩; have HXB := Lib.hid hb1; have HC2 := Lib.hid (cuts_tg x1 (HF2.out.next hb1) (by have := HLN.out.2.1; omega)); rw [← HEQ.out, ← HNA.out] at HC2; clear hb1 HC1) | (refine HC2.out.mono ?_; rintro e x2 ⟨X2, xc2, rfl, hb2, -⟩; have HXB2 := Lib.hid hb2; clear hb2 HC2)))
      exact ⟨rfl, .bool true, by simp [results, Try.results3, go_sem], rfl, ((HI.out.bel.trans (HB5.out.mono HI.out.bel.size)).trans (HXB.out.mono (HI.out.bel.trans (HB5.out.mono HI.out.bel.size)).size)).trans (HXB2.out.mono (((HI.out.bel.trans (HB5.out.mono HI.out.bel.size)).trans (HXB.out.mono (HI.out.bel.trans (HB5.out.mono HI.out.bel.size)).size))).size)⟩
end Co
end Go.Proofs.Ytbnapbjmffajfaa

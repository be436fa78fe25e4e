/-
FramesTorn holds: of frames, written one behind the other onto noughts, of which just the first bytes last, just those are read all of whose bytes lasted. No condition.
-/
import Derived.Test.YtejehmimidnaiaaFrT
namespace Go.Proofs.Ytejehmimidnaiaa
open Go.RowKit Go.ChangeShapes Go.WideShapes Go.ChangeAt Go.WideElems
open Byt
set_option linter.unusedSimpArgs false
set_option linter.unusedVariables false

set_option maxHeartbeats 8000000 in
set_option maxRecDepth 20000 in
theorem torn_walk (W : World) (A : Option Addr) (n c : Nat) (l : List Rc) (last : Int) (bh : Nat) (hn : l.length = n) (hl1 : -9223372036854775808 ≤ last) (hl2 : last ≤ 9223372036854775807) (hbh : bh < 256) (hr : RowsOf Rc.cells 2 W A l) (hok : ∀ x ∈ l, x.Ok W) :
    Calls Try.prog 4 #[.slice A n c, .int .i64 last, .int .u8 (bh : Nat)] W fun e W' => e = .returned (.bool true) ∧ Below W.heap.size W W' := by
  have HN := Lib.hid hn
  have HR := Lib.hid hr
  have HOK := Lib.hid hok
  have HLA := Lib.hid (And.intro hl1 hl2)
  have HBH := Lib.hid hbh
  clear hn hr hok hl1 hl2 hbh
  go_enter Try.func4, Try.ntmps4
  go_upto_region 5 with fail
  go_loopw [7, 8, 9, 10] (fun av ev tv iv wr => ∃ k : Nat, ∃ q tl, k ≤ 12 ∧ k ≤ n ∧ iv = .int .i64 k ∧ TInv W l av ev tv q tl k wr) (fun _ _ _ i _ => 12 - (intOf i).toNat)
  case atStart => exact ⟨0, [], [], by omega, by omega, rfl, ⟨World.ownsRow_nil _ _ _ _, (fun y hy => by cases hy), Nat.le_refl _, Nat.le_refl _, Below.refl _ _⟩, World.ownsRow_nil _ _ _ _, World.ownsRow_nil _ _ _ _, rfl, fun y hy => by cases hy⟩
  case round =>
    obtain ⟨k, q, tl, hk12, hkn, rfl, hJ⟩ := hrel
    have HJ := Lib.hid hJ
    clear hJ
    by_cases hlt : k < n
    · by_cases h12 : (k : Int) < 12
      · have hkl : k < l.length := by rw [HN.out]; exact hlt
        obtain ⟨b, o, hA, hbk, hrr⟩ := HR.out.resolve_left (by intro e; rw [e] at hkl; simp at hkl)
        subst hA
        obtain ⟨x, hx⟩ : ∃ x, x = l[k] := ⟨_, rfl⟩
        have hrW := hrr k hkl
        rw [← hx] at hrW
        have HXL := Lib.hid (show x ∈ l from hx ▸ List.getElem_mem hkl)
        have HRG := Lib.hid (show ∀ w', Below W.heap.size W w' → w'.rangeAt b (o + k * 2) x.cells from fun w' hb => rng_next hrW hb)
        have hr := HRG.out wr HJ.out.1.2.2.2.2
        have HX := Lib.hid (show x.Ok wr from hx ▸ (HOK.out _ (List.getElem_mem hkl)).next HJ.out.1.2.2.2.2)
        obtain ⟨r0, r1⟩ := rc_at hr
        clear hrr hx hkl hrW hbk
        by_cases p5 : (500 : Int) < (x.bs.length : Nat)
        · clear hr
          go_wp2_with (go_at_call 6; refine (alive_any _).mono ?_; rintro e w3 ⟨rfl, hb⟩; have HB3 := Lib.hid (HJ.out.1.2.2.2.2.trans (hb.mono HJ.out.1.2.2.2.2.size)); clear hb)
          go_ret
          exact ⟨rfl, HB3.out⟩
        have HL5 := Lib.hid (show x.bs.length ≤ 500 by omega)
        obtain ⟨y, hy⟩ : ∃ y, y = x.bs.length := ⟨_, rfl⟩
        obtain ⟨rb, hrb⟩ : ∃ rb, rb = Fr.rightB x.k y := ⟨_, rfl⟩
        have HRB := Lib.hid hrb
        have HY := Lib.hid hy
        rw [← hy] at p5 r1
        have HRA := Lib.hid hr
        cases rb with
        | false =>
          have HW := Lib.hid (write_no wr x.k x.A y x.c HRB.out.symm)
          clear hrb hy hr
          have hr : wr.rangeAt b (o + k * 2) (Rc.cells x) := HRA.out
          go_wp2_with (first | (refine wpList_load_mid rfl 24 _ rfl _ _ rfl (Rc.cells x) _ hr Try.underlying24 rfl (rcinfo x) ?_; rw [rc_arr, ← HY.out]) | (go_at_call 8; refine HW.out.mono ?_; rintro e w3 ⟨rfl, hb⟩; have HJ3 := Lib.hid (HJ.out.next hb); clear hb HW))
          go_roundw
          case rel => exact ⟨k + 1, q, tl, by omega, by omega, by go_num, HJ3.out.more (by omega)⟩
          case measure => simp [intOf]; omega
        | true =>
          obtain ⟨z, hz, hF⟩ := right_fine (x := x) (by rw [← HY.out]; exact HRB.out.symm) HX.out.h256
          have HF := Lib.hid hF
          have hw := write_yes wr z hF.1 hF.2.1 x.A y x.c x.bs HY.out.symm (by have := HL5.out; have := HY.out; omega) HX.out.rd HX.out.hA HX.out.h256
          have HW := Lib.hid hw
          have HZ := Lib.hid hz
          clear hrb hy hr hz hF hw
          have hr : wr.rangeAt b (o + k * 2) (Rc.cells x) := HRA.out
          go_upto_region 11 with (first | (refine wpList_load_mid rfl 24 _ rfl _ _ rfl (Rc.cells x) _ hr Try.underlying24 rfl (rcinfo x) ?_; rw [rc_arr, ← HY.out, HZ.out]) | (go_at_call 8; refine HW.out.mono ?_; rintro e w3 ⟨v3, rfl, hown, hb⟩; have HJ3 := Lib.hid (HJ.out.next hb); have HO3 := Lib.hid hown; clear hb hown HW))
          obtain ⟨A3, c3, rfl, hc3, hs3, -⟩ := ownG_slice HO3.out
          have HS3 := Lib.hid hs3
          have HYL := Lib.hid (show (Fr.frame z x.bs).length = 9 + y by rw [Fr.frame_len, HY.out])
          clear hs3 hc3 hr r0 r1 HO3 HRA HJ
          obtain ⟨N, hNl⟩ : ∃ N, N = (Fr.frames q).length := ⟨_, rfl⟩
          have HNl := Lib.hid hNl
          have HOq := Lib.hid (show w3.ownsRow W.heap.size 5 1 u7 N (u8s (Fr.frames q)) from hNl ▸ HJ3.out.1.1)
          have HT3 := Lib.hid (HJ3.out.1.2.2.2.2.size)
          clear hNl
          obtain ⟨fs4, hfs4⟩ : ∃ fs4, fs4 = Fr.frames (q ++ [(z, x.bs)]) := ⟨_, rfl⟩
          obtain ⟨N4, hN4⟩ : ∃ N4, N4 = N + (9 + y) := ⟨_, rfl⟩
          have HF4 := Lib.hid (show fs4 = Fr.frames q ++ Fr.frame z x.bs by rw [hfs4, frames_snoc])
          have HN4 := Lib.hid (show fs4.length = N4 by rw [hfs4, frames_snoc, List.length_append, HYL.out, hN4, HNl.out])
          have HNN4 := Lib.hid hN4
          have HFS4 := Lib.hid hfs4
          obtain ⟨P, hP⟩ : ∃ P, P = q.length := ⟨_, rfl⟩
          obtain ⟨T, hT⟩ : ∃ T, T = tl.length := ⟨_, rfl⟩
          have HP := Lib.hid hP
          have HT := Lib.hid hT
          have HP12 := Lib.hid (show P ≤ 12 by have := HJ3.out.1.2.2.1; omega)
          have HT12 := Lib.hid (show T ≤ 12 by have h1 := congrArg List.length HJ3.out.2.2.2.1; simp only [List.length_map] at h1; have := HP12.out; omega)
          clear hfs4 hN4 hP hT
          go_upto_region 12 with (at_builtin; refine wpList_append_u8 _ rfl _ _ rfl W.heap.size _ N (u8s (Fr.frames q)) rfl HOq.out A3 (9 + y) c3 (u8s (Fr.frame z x.bs)) rfl (by rw [u8s_len]; exact HYL.out) HS3.out (u8s_one _) (by have h1 := HJ3.out.1.2.2.2.1; have h2 := HL5.out; have h3 := HY.out; have h4 := HNl.out; omega) HT3.out ?_; intro v4 w4 hown hgrow hloc; have RB := Lib.hid (ownG_below hgrow HOq.out (Nat.le_refl _) HT3.out HJ3.out.1.2.2.2.2); have RE := Lib.hid (show w4.ownsRow W.heap.size 3 1 u8 P (ints (endsOf q)) from HP.out ▸ own_kept HJ3.out.2.1 hgrow HOq.out (by decide)); have RT := Lib.hid (show w4.ownsRow W.heap.size 24 2 u9 T (rcs tl) from HT.out ▸ own_kept HJ3.out.2.2.1 hgrow HOq.out (by decide)); rw [← u8s_app, ← HF4.out, ← HNN4.out] at hown; obtain ⟨A4, c4, rfl⟩ := slice_of hown; have RA := Lib.hid hown; clear hown hgrow hloc)
          obtain ⟨i1, z1, hi1, hz1, hsz1, hby1, hzs1⟩ := info_int
          obtain ⟨i0, z0, hi0, hz0, hsz0, hby0, hzs0⟩ := info_rc
          refine wp_region_tree (S := (fun W' => Below W.heap.size W W')) (.take 0 (.take 1 (.take 2 (.take 5 (.take 6 (.take 7 (.take 8 (.take 9 (.two 3 (.two 4 (.one 10 (.one 11 (.take 12 (.take 13 .nil)))) 10 (.one 4 (.one 11 (.take 12 (.take 13 .nil))))) 10 (.one 3 (.one 4 (.one 11 (.take 12 (.take 13 .nil)))))))))))))) 9999 (by kernel_rfl) (by kernel_rfl) (by kernel_rfl) (by kernel_rfl) (by kernel_rfl) (fun _ _ d _ _ h => by cases d <;> exact h) ?_ (fun hHeld => ?_); (focus (exact RB.out.drew)); simp only [Tree.map, List.getElem?_toArray, List.getElem?_cons_zero, List.getElem?_cons_succ]
          (repeat (first | (refine wpTree.take (v := undef) (Or.inr ⟨by rfl, rfl⟩) ?_; simp only [Act.put, List.setIfInBounds_toArray, List.set_cons_zero, List.set_cons_succ]) | (refine wpTree.take (v := .agg #[.int .i64 x.k, .slice x.A x.bs.length x.c]) (yieldsIf_load_mid rfl 24 _ rfl _ _ rfl (Rc.cells x) _ ?_ Try.underlying24 rfl (rcinfo _)) ?_; (focus (intro _ hS; exact HRG.out _ hS)); simp only [Act.put, List.setIfInBounds_toArray, List.set_cons_zero, List.set_cons_succ]) | (refine wpTree.take (v := ?_) (Or.inl ⟨by rfl, ?_⟩) ?_; rotate_left; (focus (intro _ hS; (try dsimp only at hS); go_split_ands; (try subst hS); go_simp; (try (with_reducible rfl)); done)); simp only [Act.put, List.setIfInBounds_toArray, List.set_cons_zero, List.set_cons_succ])))
          obtain ⟨d0, hd0⟩ : ∃ d0, d0 = w4.drew := ⟨_, rfl⟩
          replace RA := Lib.hid (show d0.ownsRow W.heap.size 5 1 (.slice A4 N4 c4) N4 (u8s fs4) from hd0 ▸ ownG_next RA.out (Below.refl _ _).drew)
          replace RE := Lib.hid (show d0.ownsRow W.heap.size 3 1 u8 P (ints (endsOf q)) from hd0 ▸ ownG_next RE.out (Below.refl _ _).drew)
          replace RT := Lib.hid (show d0.ownsRow W.heap.size 24 2 u9 T (rcs tl) from hd0 ▸ ownG_next RT.out (Below.refl _ _).drew)
          replace RB := Lib.hid (show Below W.heap.size W d0 from hd0 ▸ RB.out.drew)
          rw [← hd0]
          clear hd0
          refine wpTree.two ?_ ?_
          · refine wpTree.one (fun K hK => ?_)
            go_simp
            have hal := (Below.refl d0.heap.size d0).alloc (Nat.le_refl _) (.cells #[.int .i64 (N4 : Nat)] 3)
            have hbk := Blk.new d0 3 #[.int .i64 (N4 : Nat)]
            obtain ⟨y1, hy⟩ : ∃ y, y = d0.alloc (.cells #[.int .i64 (N4 : Nat)] 3) := ⟨_, rfl⟩
            rw [← hy] at hal hbk ⊢
            clear hy
            replace RA := Lib.hid (ownG_next RA.out hal)
            replace RE := Lib.hid (ownG_next RE.out hal)
            replace RT := Lib.hid (ownG_next RT.out hal)
            replace RB := Lib.hid (RB.out.trans (hal.mono RB.out.size))
            have BE := Lib.hid hbk
            refine hK.out _ _ RB.out (fun hHeld' => ?_)
            clear hK K hHeld hal hbk
            have hHeld := hHeld'
            clear hHeld'
            (try simp only [Act.put, List.setIfInBounds_toArray, List.set_cons_zero, List.set_cons_succ])
            (repeat (first | (refine wpTree.take (v := undef) (Or.inr ⟨by rfl, rfl⟩) ?_; simp only [Act.put, List.setIfInBounds_toArray, List.set_cons_zero, List.set_cons_succ]) | (refine wpTree.take (v := ?_) (Or.inl ⟨by rfl, ?_⟩) ?_; rotate_left; (focus (intro _ hS; (try dsimp only at hS); go_split_ands; (try subst hS); go_simp; (try (with_reducible rfl)); done)); simp only [Act.put, List.setIfInBounds_toArray, List.set_cons_zero, List.set_cons_succ])))
            refine wpTree.two ?_ ?_
            · refine wpTree.one (fun K hK => ?_)
              refine step_append_g (by rfl) _ _ 43 rfl W.heap.size 3 i1 z1 Try.underlying43 hi1 hz1 (by rw [hsz1]; exact hzs1) (by rw [hsz1]; decide) _ P (ints (endsOf q)) rfl (by rw [hsz1]; exact RE.out) (some ⟨d0.heap.size, 0, none⟩) 1 1 [.int .i64 (N4 : Nat)] rfl (by rw [hsz1]; rfl) (blk_src BE.out) (ints_one [N4]) (by unfold maxLen; have := HP12.out; omega) (by rw [hby1]; have := HP12.out; omega) RB.out.size ?_
              rw [hsz1]
              intro vy2 y2 hown hgrow _
              replace RA := Lib.hid (own_kept RA.out hgrow RE.out (by decide))
              replace RT := Lib.hid (own_kept RT.out hgrow RE.out (by decide))
              have RB2 := Lib.hid (ownG_below hgrow RE.out (Nat.le_refl _) RB.out.size RB.out)
              replace RE := Lib.hid hown
              replace RB := RB2
              refine hK.out _ _ RB.out (fun hHeld' => ?_)
              clear hK K hHeld hown hgrow RB2
              have hHeld := hHeld'
              clear hHeld'
              (try simp only [Act.put, List.setIfInBounds_toArray, List.set_cons_zero, List.set_cons_succ])
              (repeat (first | (refine wpTree.take (v := undef) (Or.inr ⟨by rfl, rfl⟩) ?_; simp only [Act.put, List.setIfInBounds_toArray, List.set_cons_zero, List.set_cons_succ]) | (refine wpTree.take (v := ?_) (Or.inl ⟨by rfl, ?_⟩) ?_; rotate_left; (focus (intro _ hS; (try dsimp only at hS); go_split_ands; (try subst hS); go_simp; (try (with_reducible rfl)); done)); simp only [Act.put, List.setIfInBounds_toArray, List.set_cons_zero, List.set_cons_succ])))
              refine wpTree.one (fun K hK => ?_)
              go_simp
              have hal := (Below.refl y2.heap.size y2).alloc (Nat.le_refl _) (.cells #[.int .i64 x.k, .slice x.A x.bs.length x.c] 24)
              have hbk := Blk.new y2 24 #[.int .i64 x.k, .slice x.A x.bs.length x.c]
              obtain ⟨y3, hy⟩ : ∃ y, y = y2.alloc (.cells #[.int .i64 x.k, .slice x.A x.bs.length x.c] 24) := ⟨_, rfl⟩
              rw [← hy] at hal hbk ⊢
              clear hy
              replace RA := Lib.hid (ownG_next RA.out hal)
              replace RE := Lib.hid (ownG_next RE.out hal)
              replace RT := Lib.hid (ownG_next RT.out hal)
              replace RB := Lib.hid (RB.out.trans (hal.mono RB.out.size))
              have BR := Lib.hid hbk
              refine hK.out _ _ RB.out (fun hHeld' => ?_)
              clear hK K hHeld hal hbk
              have hHeld := hHeld'
              clear hHeld'
              (try simp only [Act.put, List.setIfInBounds_toArray, List.set_cons_zero, List.set_cons_succ])
              (repeat (first | (refine wpTree.take (v := undef) (Or.inr ⟨by rfl, rfl⟩) ?_; simp only [Act.put, List.setIfInBounds_toArray, List.set_cons_zero, List.set_cons_succ]) | (refine wpTree.take (v := ?_) (Or.inl ⟨by rfl, ?_⟩) ?_; rotate_left; (focus (intro _ hS; (try dsimp only at hS); go_split_ands; (try subst hS); go_simp; (try (with_reducible rfl)); done)); simp only [Act.put, List.setIfInBounds_toArray, List.set_cons_zero, List.set_cons_succ])))
              refine wpTree.one (fun K hK => ?_)
              refine step_append_g (by rfl) _ _ 32 rfl W.heap.size 24 i0 z0 Try.underlying32 hi0 hz0 (by rw [hsz0]; exact hzs0) (by rw [hsz0]; decide) _ T (rcs tl) rfl (by rw [hsz0]; exact RT.out) (some ⟨y2.heap.size, 0, none⟩) 1 1 x.cells rfl (by rw [hsz0, rc_len]) (blk_src BR.out) (rc_ones x) (by unfold maxLen; have := HT12.out; omega) (by rw [hby0]; have := HT12.out; omega) RB.out.size ?_
              rw [hsz0]
              intro vy4 y4 hown hgrow _
              replace RA := Lib.hid (own_kept RA.out hgrow RT.out (by decide))
              replace RE := Lib.hid (own_kept RE.out hgrow RT.out (by decide))
              have RB2 := Lib.hid (ownG_below hgrow RT.out (Nat.le_refl _) RB.out.size RB.out)
              replace RT := Lib.hid hown
              replace RB := RB2
              refine hK.out _ _ RB.out (fun hHeld' => ?_)
              clear hK K hHeld hown hgrow RB2
              have hHeld := hHeld'
              clear hHeld'
              (try simp only [Act.put, List.setIfInBounds_toArray, List.set_cons_zero, List.set_cons_succ])
              (repeat (first | (refine wpTree.take (v := undef) (Or.inr ⟨by rfl, rfl⟩) ?_; simp only [Act.put, List.setIfInBounds_toArray, List.set_cons_zero, List.set_cons_succ]) | (refine wpTree.take (v := ?_) (Or.inl ⟨by rfl, ?_⟩) ?_; rotate_left; (focus (intro _ hS; (try dsimp only at hS); go_split_ands; (try subst hS); go_simp; (try (with_reducible rfl)); done)); simp only [Act.put, List.setIfInBounds_toArray, List.set_cons_zero, List.set_cons_succ])))
              refine wpTree.done ?_
              go_wp2_with fail
              go_roundw
              case rel => exact ⟨k + 1, q ++ [(z, x.bs)], tl ++ [x], by omega, by omega, by go_num, torn_round HJ3.out HF.out HZ.out HXL.out HL5.out HFS4.out HN4.out HP.out HT.out RA.out RE.out RT.out RB.out⟩
              case measure => simp [intOf]; omega
            · refine wpTree.one (fun K hK => ?_)
              go_simp
              have hal := (Below.refl y1.heap.size y1).alloc (Nat.le_refl _) (.cells #[.int .i64 x.k, .slice x.A x.bs.length x.c] 24)
              have hbk := Blk.new y1 24 #[.int .i64 x.k, .slice x.A x.bs.length x.c]
              obtain ⟨y2, hy⟩ : ∃ y, y = y1.alloc (.cells #[.int .i64 x.k, .slice x.A x.bs.length x.c] 24) := ⟨_, rfl⟩
              rw [← hy] at hal hbk ⊢
              clear hy
              replace RA := Lib.hid (ownG_next RA.out hal)
              replace RE := Lib.hid (ownG_next RE.out hal)
              replace RT := Lib.hid (ownG_next RT.out hal)
              replace RB := Lib.hid (RB.out.trans (hal.mono RB.out.size))
              replace BE := Lib.hid (BE.out.next hal)
              have BR := Lib.hid hbk
              refine hK.out _ _ RB.out (fun hHeld' => ?_)
              clear hK K hHeld hal hbk
              have hHeld := hHeld'
              clear hHeld'
              (try simp only [Act.put, List.setIfInBounds_toArray, List.set_cons_zero, List.set_cons_succ])
              (repeat (first | (refine wpTree.take (v := undef) (Or.inr ⟨by rfl, rfl⟩) ?_; simp only [Act.put, List.setIfInBounds_toArray, List.set_cons_zero, List.set_cons_succ]) | (refine wpTree.take (v := ?_) (Or.inl ⟨by rfl, ?_⟩) ?_; rotate_left; (focus (intro _ hS; (try dsimp only at hS); go_split_ands; (try subst hS); go_simp; (try (with_reducible rfl)); done)); simp only [Act.put, List.setIfInBounds_toArray, List.set_cons_zero, List.set_cons_succ])))
              refine wpTree.one (fun K hK => ?_)
              refine step_append_g (by rfl) _ _ 43 rfl W.heap.size 3 i1 z1 Try.underlying43 hi1 hz1 (by rw [hsz1]; exact hzs1) (by rw [hsz1]; decide) _ P (ints (endsOf q)) rfl (by rw [hsz1]; exact RE.out) (some ⟨d0.heap.size, 0, none⟩) 1 1 [.int .i64 (N4 : Nat)] rfl (by rw [hsz1]; rfl) (blk_src BE.out) (ints_one [N4]) (by unfold maxLen; have := HP12.out; omega) (by rw [hby1]; have := HP12.out; omega) RB.out.size ?_
              rw [hsz1]
              intro vy3 y3 hown hgrow _
              replace RA := Lib.hid (own_kept RA.out hgrow RE.out (by decide))
              replace RT := Lib.hid (own_kept RT.out hgrow RE.out (by decide))
              replace BR := Lib.hid (blk_kept BR.out hgrow RE.out (by decide))
              have RB2 := Lib.hid (ownG_below hgrow RE.out (Nat.le_refl _) RB.out.size RB.out)
              replace RE := Lib.hid hown
              replace RB := RB2
              refine hK.out _ _ RB.out (fun hHeld' => ?_)
              clear hK K hHeld hown hgrow RB2
              have hHeld := hHeld'
              clear hHeld'
              (try simp only [Act.put, List.setIfInBounds_toArray, List.set_cons_zero, List.set_cons_succ])
              (repeat (first | (refine wpTree.take (v := undef) (Or.inr ⟨by rfl, rfl⟩) ?_; simp only [Act.put, List.setIfInBounds_toArray, List.set_cons_zero, List.set_cons_succ]) | (refine wpTree.take (v := ?_) (Or.inl ⟨by rfl, ?_⟩) ?_; rotate_left; (focus (intro _ hS; (try dsimp only at hS); go_split_ands; (try subst hS); go_simp; (try (with_reducible rfl)); done)); simp only [Act.put, List.setIfInBounds_toArray, List.set_cons_zero, List.set_cons_succ])))
              refine wpTree.one (fun K hK => ?_)
              refine step_append_g (by rfl) _ _ 32 rfl W.heap.size 24 i0 z0 Try.underlying32 hi0 hz0 (by rw [hsz0]; exact hzs0) (by rw [hsz0]; decide) _ T (rcs tl) rfl (by rw [hsz0]; exact RT.out) (some ⟨y1.heap.size, 0, none⟩) 1 1 x.cells rfl (by rw [hsz0, rc_len]) (blk_src BR.out) (rc_ones x) (by unfold maxLen; have := HT12.out; omega) (by rw [hby0]; have := HT12.out; omega) RB.out.size ?_
              rw [hsz0]
              intro vy4 y4 hown hgrow _
              replace RA := Lib.hid (own_kept RA.out hgrow RT.out (by decide))
              replace RE := Lib.hid (own_kept RE.out hgrow RT.out (by decide))
              have RB2 := Lib.hid (ownG_below hgrow RT.out (Nat.le_refl _) RB.out.size RB.out)
              replace RT := Lib.hid hown
              replace RB := RB2
              refine hK.out _ _ RB.out (fun hHeld' => ?_)
              clear hK K hHeld hown hgrow RB2
              have hHeld := hHeld'
              clear hHeld'
              (try simp only [Act.put, List.setIfInBounds_toArray, List.set_cons_zero, List.set_cons_succ])
              (repeat (first | (refine wpTree.take (v := undef) (Or.inr ⟨by rfl, rfl⟩) ?_; simp only [Act.put, List.setIfInBounds_toArray, List.set_cons_zero, List.set_cons_succ]) | (refine wpTree.take (v := ?_) (Or.inl ⟨by rfl, ?_⟩) ?_; rotate_left; (focus (intro _ hS; (try dsimp only at hS); go_split_ands; (try subst hS); go_simp; (try (with_reducible rfl)); done)); simp only [Act.put, List.setIfInBounds_toArray, List.set_cons_zero, List.set_cons_succ])))
              refine wpTree.done ?_
              go_wp2_with fail
              go_roundw
              case rel => exact ⟨k + 1, q ++ [(z, x.bs)], tl ++ [x], by omega, by omega, by go_num, torn_round HJ3.out HF.out HZ.out HXL.out HL5.out HFS4.out HN4.out HP.out HT.out RA.out RE.out RT.out RB.out⟩
              case measure => simp [intOf]; omega
          · refine wpTree.one (fun K hK => ?_)
            go_simp
            have hal := (Below.refl d0.heap.size d0).alloc (Nat.le_refl _) (.cells #[.int .i64 x.k, .slice x.A x.bs.length x.c] 24)
            have hbk := Blk.new d0 24 #[.int .i64 x.k, .slice x.A x.bs.length x.c]
            obtain ⟨y1, hy⟩ : ∃ y, y = d0.alloc (.cells #[.int .i64 x.k, .slice x.A x.bs.length x.c] 24) := ⟨_, rfl⟩
            rw [← hy] at hal hbk ⊢
            clear hy
            replace RA := Lib.hid (ownG_next RA.out hal)
            replace RE := Lib.hid (ownG_next RE.out hal)
            replace RT := Lib.hid (ownG_next RT.out hal)
            replace RB := Lib.hid (RB.out.trans (hal.mono RB.out.size))
            have BR := Lib.hid hbk
            refine hK.out _ _ RB.out (fun hHeld' => ?_)
            clear hK K hHeld hal hbk
            have hHeld := hHeld'
            clear hHeld'
            (try simp only [Act.put, List.setIfInBounds_toArray, List.set_cons_zero, List.set_cons_succ])
            (repeat (first | (refine wpTree.take (v := undef) (Or.inr ⟨by rfl, rfl⟩) ?_; simp only [Act.put, List.setIfInBounds_toArray, List.set_cons_zero, List.set_cons_succ]) | (refine wpTree.take (v := ?_) (Or.inl ⟨by rfl, ?_⟩) ?_; rotate_left; (focus (intro _ hS; (try dsimp only at hS); go_split_ands; (try subst hS); go_simp; (try (with_reducible rfl)); done)); simp only [Act.put, List.setIfInBounds_toArray, List.set_cons_zero, List.set_cons_succ])))
            refine wpTree.one (fun K hK => ?_)
            go_simp
            have hal := (Below.refl y1.heap.size y1).alloc (Nat.le_refl _) (.cells #[.int .i64 (N4 : Nat)] 3)
            have hbk := Blk.new y1 3 #[.int .i64 (N4 : Nat)]
            obtain ⟨y2, hy⟩ : ∃ y, y = y1.alloc (.cells #[.int .i64 (N4 : Nat)] 3) := ⟨_, rfl⟩
            rw [← hy] at hal hbk ⊢
            clear hy
            replace RA := Lib.hid (ownG_next RA.out hal)
            replace RE := Lib.hid (ownG_next RE.out hal)
            replace RT := Lib.hid (ownG_next RT.out hal)
            replace RB := Lib.hid (RB.out.trans (hal.mono RB.out.size))
            replace BR := Lib.hid (BR.out.next hal)
            have BE := Lib.hid hbk
            refine hK.out _ _ RB.out (fun hHeld' => ?_)
            clear hK K hHeld hal hbk
            have hHeld := hHeld'
            clear hHeld'
            (try simp only [Act.put, List.setIfInBounds_toArray, List.set_cons_zero, List.set_cons_succ])
            (repeat (first | (refine wpTree.take (v := undef) (Or.inr ⟨by rfl, rfl⟩) ?_; simp only [Act.put, List.setIfInBounds_toArray, List.set_cons_zero, List.set_cons_succ]) | (refine wpTree.take (v := ?_) (Or.inl ⟨by rfl, ?_⟩) ?_; rotate_left; (focus (intro _ hS; (try dsimp only at hS); go_split_ands; (try subst hS); go_simp; (try (with_reducible rfl)); done)); simp only [Act.put, List.setIfInBounds_toArray, List.set_cons_zero, List.set_cons_succ])))
            refine wpTree.one (fun K hK => ?_)
            refine step_append_g (by rfl) _ _ 43 rfl W.heap.size 3 i1 z1 Try.underlying43 hi1 hz1 (by rw [hsz1]; exact hzs1) (by rw [hsz1]; decide) _ P (ints (endsOf q)) rfl (by rw [hsz1]; exact RE.out) (some ⟨y1.heap.size, 0, none⟩) 1 1 [.int .i64 (N4 : Nat)] rfl (by rw [hsz1]; rfl) (blk_src BE.out) (ints_one [N4]) (by unfold maxLen; have := HP12.out; omega) (by rw [hby1]; have := HP12.out; omega) RB.out.size ?_
            rw [hsz1]
            intro vy3 y3 hown hgrow _
            replace RA := Lib.hid (own_kept RA.out hgrow RE.out (by decide))
            replace RT := Lib.hid (own_kept RT.out hgrow RE.out (by decide))
            replace BR := Lib.hid (blk_kept BR.out hgrow RE.out (by decide))
            have RB2 := Lib.hid (ownG_below hgrow RE.out (Nat.le_refl _) RB.out.size RB.out)
            replace RE := Lib.hid hown
            replace RB := RB2
            refine hK.out _ _ RB.out (fun hHeld' => ?_)
            clear hK K hHeld hown hgrow RB2
            have hHeld := hHeld'
            clear hHeld'
            (try simp only [Act.put, List.setIfInBounds_toArray, List.set_cons_zero, List.set_cons_succ])
            (repeat (first | (refine wpTree.take (v := undef) (Or.inr ⟨by rfl, rfl⟩) ?_; simp only [Act.put, List.setIfInBounds_toArray, List.set_cons_zero, List.set_cons_succ]) | (refine wpTree.take (v := ?_) (Or.inl ⟨by rfl, ?_⟩) ?_; rotate_left; (focus (intro _ hS; (try dsimp only at hS); go_split_ands; (try subst hS); go_simp; (try (with_reducible rfl)); done)); simp only [Act.put, List.setIfInBounds_toArray, List.set_cons_zero, List.set_cons_succ])))
            refine wpTree.one (fun K hK => ?_)
            refine step_append_g (by rfl) _ _ 32 rfl W.heap.size 24 i0 z0 Try.underlying32 hi0 hz0 (by rw [hsz0]; exact hzs0) (by rw [hsz0]; decide) _ T (rcs tl) rfl (by rw [hsz0]; exact RT.out) (some ⟨d0.heap.size, 0, none⟩) 1 1 x.cells rfl (by rw [hsz0, rc_len]) (blk_src BR.out) (rc_ones x) (by unfold maxLen; have := HT12.out; omega) (by rw [hby0]; have := HT12.out; omega) RB.out.size ?_
            rw [hsz0]
            intro vy4 y4 hown hgrow _
            replace RA := Lib.hid (own_kept RA.out hgrow RT.out (by decide))
            replace RE := Lib.hid (own_kept RE.out hgrow RT.out (by decide))
            have RB2 := Lib.hid (ownG_below hgrow RT.out (Nat.le_refl _) RB.out.size RB.out)
            replace RT := Lib.hid hown
            replace RB := RB2
            refine hK.out _ _ RB.out (fun hHeld' => ?_)
            clear hK K hHeld hown hgrow RB2
            have hHeld := hHeld'
            clear hHeld'
            (try simp only [Act.put, List.setIfInBounds_toArray, List.set_cons_zero, List.set_cons_succ])
            (repeat (first | (refine wpTree.take (v := undef) (Or.inr ⟨by rfl, rfl⟩) ?_; simp only [Act.put, List.setIfInBounds_toArray, List.set_cons_zero, List.set_cons_succ]) | (refine wpTree.take (v := ?_) (Or.inl ⟨by rfl, ?_⟩) ?_; rotate_left; (focus (intro _ hS; (try dsimp only at hS); go_split_ands; (try subst hS); go_simp; (try (with_reducible rfl)); done)); simp only [Act.put, List.setIfInBounds_toArray, List.set_cons_zero, List.set_cons_succ])))
            refine wpTree.done ?_
            go_wp2_with fail
            go_roundw
            case rel => exact ⟨k + 1, q ++ [(z, x.bs)], tl ++ [x], by omega, by omega, by go_num, torn_round HJ3.out HF.out HZ.out HXL.out HL5.out HFS4.out HN4.out HP.out HT.out RA.out RE.out RT.out RB.out⟩
            case measure => simp [intOf]; omega

      · have q12 : ¬ (k : Int) < 12 := h12
        obtain ⟨fs, hfs⟩ : ∃ fs, fs = Fr.frames q := ⟨_, rfl⟩
        obtain ⟨N, hN⟩ : ∃ N, N = fs.length := ⟨_, rfl⟩
        have hrow := HJ.out.1.1
        rw [← hfs, ← hN] at hrow
        have HNf := Lib.hid hN
        have HF256 := Lib.hid (show ∀ x ∈ fs, x < 256 from hfs ▸ frames_256 q HJ.out.1.2.1)
        have HNN := Lib.hid (show N ≤ 7200 by have := HJ.out.1.2.2.2.1; rw [← hfs, ← hN] at this; omega)
        have HBW := Lib.hid HJ.out.1.2.2.2.2
        obtain ⟨P, hP⟩ : ∃ P, P = q.length := ⟨_, rfl⟩
        have HP := Lib.hid hP
        have HP12 := Lib.hid (show P ≤ 12 by have := HJ.out.1.2.2.1; omega)
        have hre := HJ.out.2.1
        rw [← hP] at hre
        obtain ⟨A5, c5, rfl, hc5, -, -⟩ := ownG_slice hrow
        obtain ⟨A8, c8, rfl, -⟩ := ownG_slice hre
        obtain ⟨A9, c9, rfl, -⟩ := ownG_slice HJ.out.2.2.1
        obtain ⟨T, hT⟩ : ∃ T, T = tl.length := ⟨_, rfl⟩
        have HT := Lib.hid hT
        have hrt := HJ.out.2.2.1
        rw [← hT] at hrt ⊢
        have HRA := Lib.hid hrow
        have HRE := Lib.hid hre
        have HRT := Lib.hid (show wr.ownsRow W.heap.size 24 2 (.slice A9 T c9) tl.length (rcs tl) from by rw [← hT]; exact hrt)
        have HMAP := Lib.hid HJ.out.2.2.2.1
        have HMEM := Lib.hid HJ.out.2.2.2.2
        have HFINE := Lib.hid HJ.out.1.2.1
        have HFS := Lib.hid hfs
        obtain ⟨La, hLa⟩ : ∃ La : Nat, La = if last < 0 ∨ (N : Int) < last then N else last.toNat := ⟨_, rfl⟩
        have HLE := Lib.hid (show La ≤ N by rw [hLa]; split <;> omega)
        have HLc := Lib.hid hLa
        have HC5 := Lib.hid hc5
        clear hfs hN hrow hP hre hT hrt HJ hc5 hLa
        go_upto_region 13 with fail
        obtain ⟨bt, hbt⟩ : ∃ bt, bt = decide (last < 0 ∨ (N : Int) < last) := ⟨_, rfl⟩
        have HBT := Lib.hid hbt
        clear hbt
        go_cut [71] from 64 to 71 (fun t1 wx => t1 = .bool bt ∧ wx = wr)
        case first =>
          by_cases a1 : last < 0
          · have HL := Lib.hid (show bt = true by rw [HBT.out]; exact decide_eq_true (Or.inl a1))
            go_wp2_with fail
            go_meet
            exact ⟨by rw [HL.out], rfl⟩
          · by_cases a2 : (N : Int) < last
            · have HL := Lib.hid (show bt = true by rw [HBT.out]; exact decide_eq_true (Or.inr a2))
              go_wp2_with fail
              go_meet
              exact ⟨by rw [HL.out], rfl⟩
            · have HL := Lib.hid (show bt = false by rw [HBT.out]; exact decide_eq_false (by omega))
              go_wp2_with fail
              go_meet
              exact ⟨by rw [HL.out], rfl⟩
        case rest =>
          obtain ⟨rfl, rfl⟩ := hcut
          rename World => w0
          go_upto_if 71 with fail
          go_cut [1] from 72 to 73 (fun v1 wx => v1 = .int .i64 (La : Nat) ∧ wx = w0)
          case first =>
            cases bt with
            | true =>
              have HL := Lib.hid (show La = N by rw [HLc.out, if_pos (of_decide_eq_true HBT.out.symm)])
              go_wp2_with fail
              go_meet
              exact ⟨by rw [HL.out], rfl⟩
            | false =>
              have HL := Lib.hid (show (La : Int) = last by have h := of_decide_eq_false HBT.out.symm; rw [HLc.out, if_neg h]; omega)
              go_wp2_with fail
              go_meet
              exact ⟨by rw [HL.out], rfl⟩
          case rest =>
            obtain ⟨rfl, rfl⟩ := hcut
            rename World => w1
            have hs5 := (ownG_slice HRA.out)
            obtain ⟨A5', c5', e5, -, hs5, -⟩ := hs5
            simp only [Value.slice.injEq, true_and] at e5
            obtain ⟨rfl, rfl⟩ := e5
            obtain ⟨Z, hZ⟩ : ∃ Z, Z = N - La + bh := ⟨_, rfl⟩
            have HZZ := Lib.hid (w_zero N La bh Z HLE.out (by have := HNN.out; omega) HBH.out hZ)
            have HZL := Lib.hid (show Z ≤ 10000 by have := HNN.out; have := HBH.out; omega)
            have q1 : (La : Int) ≤ (c5 : Nat) := by have := HLE.out; have := HC5.out; omega
            have q2 : La ≤ c5 := by have := HLE.out; have := HC5.out; omega
            have hlit : (w1.alloc (.cells #[] 5)).ownsRow w1.heap.size 5 1 (.slice (some ⟨w1.heap.size, 0, none⟩) 0 0) 0 (u8s []) := World.ownsRow_lit (base := w1.heap.size) (size := 1) (e := 5) w1 #[] 0 (Nat.le_refl _) (by unfold maxLen; omega) rfl
            have hl1 := (Below.refl w1.heap.size w1).alloc (Nat.le_refl _) (.cells #[] 5)
            have hby : ByR w1 A5 fs ∧ (A5 = none → fs = []) := by
              have h := HRA.out
              rw [HNf.out] at h
              obtain ⟨A, c, e, -, h2, h3⟩ := own_byr h
              simp only [Value.slice.injEq] at e
              obtain ⟨rfl, -, -⟩ := e
              exact ⟨h2, h3⟩
            have hsrc : Src (w1.alloc (.cells #[] 5)) A5 La (u8s (fs.take La)) := by
              have h3 := ((byr_take La hby.1).next hl1).src (fun h => by rw [hby.2 h, List.take_nil])
              rwa [show (fs.take La).length = La by rw [List.length_take, ← HNf.out]; exact Nat.min_eq_left HLE.out] at h3
            have HL := Lib.hid (And.intro hlit hl1)
            have HS5 := Lib.hid hsrc
            have HTL := Lib.hid (show (fs.take La).length = La by rw [List.length_take, ← HNf.out]; exact Nat.min_eq_left HLE.out)
            have HLAL := Lib.hid (show La ≤ 7200 by have := HNN.out; have := HLE.out; omega)
            clear hs5 hZ hlit hl1 hby hsrc
            go_upto_region 16 with (first
              | (at_builtin; refine wpList_append_u8 _ rfl _ _ rfl w1.heap.size _ 0 (u8s []) rfl HL.out.1 A5 La c5 (u8s (fs.take La)) rfl (by rw [u8s_len]; exact HTL.out) HS5.out (u8s_one _) (by have := HLAL.out; omega) (by simp) ?_; intro v2 w2 hown hgrow hloc; have HB2 := Lib.hid (ownG_below hgrow HL.out.1 (Nat.le_refl _) (by simp) HL.out.2); rw [Nat.zero_add] at hown; have hown : w2.ownsRow w1.heap.size 5 1 v2 La (u8s (fs.take La)) := hown; obtain ⟨g2, c2, rfl⟩ := own_some hown (by intro h0; rcases hloc with e | e <;> rw [e] at h0 <;> first | exact absurd (show some w1.heap.size = none from h0) (by simp) | (simp at h0)); have HO2 := Lib.hid hown; clear hown hgrow hloc HL HS5)
              | (at_builtin; refine wpList_append_zeros _ rfl _ _ rfl w1.heap.size g2 La c2 (fs.take La) rfl HO2.out Z (congrArg (Value.int .i64) HZZ.out) (by have := HLAL.out; have := HZL.out; omega) HB2.out.size ?_; intro v3 w3 hown hgrow; have HB3 := Lib.hid (show Below w1.heap.size w1 w3 from ownG_below hgrow HO2.out (Nat.le_refl _) HB2.out.size HB2.out); have HO3 := Lib.hid hown; clear hown hgrow HO2 HB2))
            have hE3 := ownG_next HRE.out HB3.out
            have hT3 := ownG_next HRT.out HB3.out
            have HRE3 := Lib.hid hE3
            have HRT3 := Lib.hid hT3
            have HBW3 := Lib.hid (HBW.out.trans (HB3.out.mono HBW.out.size))
            clear hE3 hT3 q1 q2 HRA HRE HRT HB3
            obtain ⟨hwh, htr⟩ := Fr.torn_read (eF := 3) (eS := 9) q HFINE.out La Z (by rw [← HFS.out, ← HNf.out]; exact HLE.out)
            rw [← HFS.out, ← HP.out] at htr
            rw [← HP.out] at hwh
            have HTR := Lib.hid htr
            have HWH := Lib.hid hwh
            clear htr hwh
            have hO3 := HO3.out
            obtain ⟨NZ, hNZ⟩ : ∃ NZ, NZ = La + Z := ⟨_, rfl⟩
            have hbl : (fs.take La ++ List.replicate Z 0).length = NZ := by rw [List.length_append, HTL.out, List.length_replicate, hNZ]
            rw [← hNZ, ← hbl] at hO3
            obtain ⟨A3, c3, rfl, hc3, hr3, -⟩ := own_byr hO3
            rw [hbl] at hc3 ⊢
            have HBL := Lib.hid hbl
            have HC3 := Lib.hid hc3
            have HR3 := Lib.hid hr3
            have HNZ := Lib.hid (show NZ ≤ 20000 by have := HLAL.out; have := HZL.out; omega)
            have HB256 := Lib.hid (show ∀ x ∈ fs.take La ++ List.replicate Z 0, x < 256 from fun x hx => (List.mem_append.1 hx).elim (fun h => HF256.out x (List.mem_of_mem_take h)) (fun h => by rw [List.eq_of_mem_replicate h]; omega))
            obtain ⟨tb, htb⟩ : ∃ tb, tb = fs.take La ++ List.replicate Z 0 := ⟨_, rfl⟩
            rw [← htb] at HBL HR3 HB256 HTR
            clear hO3 hNZ hbl hc3 hr3 htb HO3
            go_upto_region 18 with fail
            go_loopw [14, 15, 16] (fun wv ev iv wx => ∃ i : Nat, i ≤ P ∧ iv = .int .i64 i ∧ wv = .int .i64 ((Fr.tornF La q i).1 : Nat) ∧ ev = .int .i64 ((Fr.tornF La q i).2 : Nat) ∧ Below w3.heap.size w3 wx) (fun _ _ i _ => 20 - (intOf i).toNat)
            case atStart => exact ⟨0, Nat.zero_le _, rfl, rfl, rfl, Below.refl _ _⟩
            case round =>
              obtain ⟨i, hi, rfl, rfl, rfl, hb⟩ := hrel
              have HBX := Lib.hid hb
              clear hb
              by_cases hiP : i < P
              · obtain ⟨g8, rfl, hc8⟩ := int_cell (ownG_next HRE3.out HBX.out) (ends_get q i (by rw [← HP.out]; exact hiP))
                obtain ⟨E, hE⟩ : ∃ E, E = Fr.endAt q i := ⟨_, rfl⟩
                rw [← hE] at hc8
                have HE := Lib.hid hE
                have i1 : (i : Int) < (P : Nat) := by omega
                obtain ⟨i', hi'⟩ : ∃ i', i' = i + 1 := ⟨_, rfl⟩
                have HI' := Lib.hid hi'
                have HIP := Lib.hid hiP
                have HWI := Lib.hid (w_one i i' hi' (by have := HP12.out; omega))
                have HIW := Lib.hid (show IntKind.i64.wrap ((i : Int) + 1) = (i' : Nat) by have := HP12.out; rw [IntKind.wrap_i64]; omega)
                clear hE hi'
                obtain ⟨th, hth⟩ : ∃ t, t = Fr.tornF La q i := ⟨_, rfl⟩
                rw [← hth]
                have HTH := Lib.hid hth
                clear hth
                by_cases hle : E ≤ La
                · have hle' : (E : Int) ≤ (La : Nat) := by omega
                  have HTN := Lib.hid (show Fr.tornF La q i' = (i', E) by rw [HI'.out]; unfold Fr.tornF; rw [← HE.out, if_pos hle])
                  clear hle
                  go_upto_region 21 with fail
                  refine wp_region_tree (S := (fun w' => w'.cell? ⟨g8, i, none⟩ = some (.int .i64 (E : Nat)))) (.take 0 (.take 1 (.take 2 (.take 3 (.take 4 (.take 5 (.take 6 (.take 7 .nil)))))))) 9999 (by kernel_rfl) (by kernel_rfl) (by kernel_rfl) (by kernel_rfl) (by kernel_rfl) (fun _ _ d _ _ h => by cases d <;> exact h) hc8 (fun hHeld => ?_); simp only [Tree.map, List.getElem?_toArray, List.getElem?_cons_zero, List.getElem?_cons_succ]
                  (repeat (first | (refine wpTree.take (v := undef) (Or.inr ⟨by rfl, rfl⟩) ?_; simp only [Act.put, List.setIfInBounds_toArray, List.set_cons_zero, List.set_cons_succ]) | (refine wpTree.take (v := ?_) (Or.inl ⟨by rfl, ?_⟩) ?_; rotate_left; (focus (intro _ hS; (try dsimp only at hS); go_split_ands; (try subst hS); go_simp; (try (with_reducible rfl)); done)); simp only [Act.put, List.setIfInBounds_toArray, List.set_cons_zero, List.set_cons_succ])))
                  refine wpTree.done ?_
                  rw [HIW.out]
                  clear hHeld hc8 i1 hle' hiP
                  go_wp2_with fail
                  go_roundw
                  case rel => exact ⟨i', by rw [HI'.out]; exact HIP.out, by rw [HWI.out], by rw [HTN.out], by rw [HTN.out], HBX.out.drew⟩
                  case measure => exact down_one 20 i i' _ HWI.out HI'.out (by have := HP12.out; have := HIP.out; omega)
                · have hle' : ¬ (E : Int) ≤ (La : Nat) := by omega
                  have HTN := Lib.hid (show Fr.tornF La q i' = th by rw [HI'.out, HTH.out]; conv => lhs; unfold Fr.tornF
                                                                     rw [← HE.out, if_neg hle])
                  clear hle
                  go_wp2_with fail
                  go_roundw
                  case rel => exact ⟨i', by rw [HI'.out]; exact HIP.out, by rw [HWI.out], by rw [HTN.out], by rw [HTN.out], HBX.out⟩
                  case measure => exact down_one 20 i i' _ HWI.out HI'.out (by have := HP12.out; have := HIP.out; omega)
              · obtain rfl : i = P := by omega
                have i1 : ¬ (i : Int) < (i : Nat) := by omega
                obtain ⟨th, hth⟩ : ∃ t, t = Fr.tornF La q i := ⟨_, rfl⟩
                rw [← hth] at HTR HWH ⊢
                obtain ⟨wh, te⟩ := th
                clear hth hiP hi
                go_upto_region 22 with fail
                have hR := read_any wr A3 NZ c3 tb HBL.out (by have := HNZ.out; omega) HC3.out (HR3.out.next HBX.out) HB256.out
                rw [HTR.out] at hR
                have HRR := Lib.hid hR
                have hWH := HWH.out
                simp only at hWH
                have HWH' := Lib.hid hWH
                clear hR hWH
                go_upto_region 23 with (go_at_call 9; refine HRR.out.mono ?_; rintro e w4 ⟨v4, l1, rfl, hown, hrec, hb⟩; have HO4 := Lib.hid hown; have HL4 := Lib.hid hrec; have HB4 := Lib.hid (HBX.out.trans (hb.mono HBX.out.size)); clear hown hrec hb HRR HBX)
                obtain ⟨A4, c4, rfl, -⟩ := ownG_slice HO4.out
                obtain ⟨L1, hL1⟩ : ∃ L, L = l1.length := ⟨_, rfl⟩
                have hLw : L1 = wh := by
                  have := recs_len1 HL4.out
                  rw [List.length_take, Nat.min_eq_left (by rw [← HP.out]; exact HWH'.out)] at this
                  rw [hL1]; exact this
                have HO4' := Lib.hid (show w4.ownsRow wr.heap.size 24 2 (.slice A4 L1 c4) l1.length (rcs l1) from by rw [hL1]; exact HO4.out)
                rw [← hL1]
                subst hLw
                clear hL1 HO4
                go_upto_region 26 with fail
                go_loopw [20] (fun jv wx => ∃ j : Nat, j ≤ L1 ∧ jv = .int .i64 j ∧ Below w4.heap.size w4 wx) (fun j _ => 20 - (intOf j).toNat)
                case atStart => exact ⟨0, Nat.zero_le _, rfl, Below.refl _ _⟩
                case round =>
                  obtain ⟨j, hj, rfl, hb⟩ := hrel
                  have HBJ := Lib.hid hb
                  clear hb
                  have HBA := Lib.hid (HBW3.out.trans ((HB4.out.trans (HBJ.out.mono HB4.out.size)).mono HBW3.out.size))
                  by_cases hjl : j < L1
                  · obtain ⟨x1, x2, hx1, hx2, hxk, hxb⟩ := recs_told HL4.out HMAP.out (by rw [← HP.out]; exact HWH'.out) hjl
                    obtain ⟨g1, rfl, hr1⟩ := rec_src (ownG_next HO4'.out HBJ.out) hx1
                    obtain ⟨g2, rfl, hr2⟩ := rec_src (ownG_next (ownG_next HRT3.out HB4.out) HBJ.out) hx2
                    obtain ⟨r1a, r1b⟩ := recs_mem (HL4.out.next HBJ.out) hx1
                    have hok2 := (HOK.out x2 (HMEM.out x2 (List.mem_of_getElem? hx2))).next HBA.out
                    obtain ⟨p1, p2⟩ := rc_at hr1
                    obtain ⟨p3, p4⟩ := rc_at hr2
                    have k1 := conv_src wr.drew x1.A x1.bs.length x1.c x1.bs ((r1a.next (Below.refl _ _).drew).byr.src r1b) rfl (hxb ▸ hok2.h256)
                    have k2 := conv_src wr.drew x2.A x2.bs.length x2.c x2.bs ((hok2.rd.next (Below.refl _ _).drew).src hok2.hA) rfl hok2.h256
                    rw [hxb] at k1 p2
                    rw [hxk] at p1
                    have p1' : wr.drew.cell? ⟨g1, j * 2, none⟩ = some (.int .i64 x2.k) := p1
                    have p2' : wr.drew.cell? ⟨g1, j * 2 + 1, none⟩ = some (.slice x1.A x2.bs.length x1.c) := p2
                    have p3' : wr.drew.cell? ⟨g2, j * 2, none⟩ = some (.int .i64 x2.k) := p3
                    have p4' : wr.drew.cell? ⟨g2, j * 2 + 1, none⟩ = some (.slice x2.A x2.bs.length x2.c) := p4
                    have i1 : (j : Int) < (L1 : Nat) := by omega
                    have i2 : (j : Int) < (T : Nat) := by have := (List.getElem?_eq_some_iff.1 hx2).1; rw [← HT.out] at this; omega
                    have i3 : j < T := by have := (List.getElem?_eq_some_iff.1 hx2).1; rw [← HT.out] at this; omega
                    obtain ⟨j1, hj1⟩ : ∃ j1, j1 = j + 1 := ⟨_, rfl⟩
                    have HJ1 := Lib.hid hj1
                    have HJL := Lib.hid hjl
                    have HEV := Lib.hid (w_one j j1 hj1 (by have := HP12.out; have := HWH'.out; omega))
                    clear p1 p2 p3 p4 hx1 hx2 hxk hxb hr1 hr2 r1a r1b hok2 hj1 hj
                    go_upto_region 28 with fail
                    refine wp_region_tree (S := (fun w' => w' = wr.drew)) (.take 0 (.take 1 (.take 2 (.take 3 (.take 4 (.take 5 (.take 6 (.take 7 (.take 8 (.take 9 (.take 10 (.take 11 (.take 12 (.take 13 (.take 14 (.take 15 (.take 16 (.take 17 (.take 18 (.take 19 (.take 20 (.take 21 (.take 22 (.take 23 (.take 24 (.take 25 .nil)))))))))))))))))))))))))) 9999 (by kernel_rfl) (by kernel_rfl) (by kernel_rfl) (by kernel_rfl) (by kernel_rfl) (fun _ _ d _ _ h => by cases d <;> exact h) rfl (fun hHeld => ?_); simp only [Tree.map, List.getElem?_toArray, List.getElem?_cons_zero, List.getElem?_cons_succ]
                    (repeat (first | (refine wpTree.take (v := undef) (Or.inr ⟨by rfl, rfl⟩) ?_; simp only [Act.put, List.setIfInBounds_toArray, List.set_cons_zero, List.set_cons_succ]) | (refine wpTree.take (v := ?_) (Or.inl ⟨by rfl, ?_⟩) ?_; rotate_left; (focus (intro _ hS; (try dsimp only at hS); go_split_ands; (try subst hS); go_simp; (try (with_reducible rfl)); done)); simp only [Act.put, List.setIfInBounds_toArray, List.set_cons_zero, List.set_cons_succ])))
                    refine wpTree.done ?_
                    clear hHeld k1 k2 p1' p2' p3' p4' i1 i2 i3 hjl
                    go_wp2_with fail
                    go_roundw
                    case rel => exact ⟨j1, by rw [HJ1.out]; exact HJL.out, by rw [HEV.out], HBJ.out.drew⟩
                    case measure => exact down_one 20 j j1 _ HEV.out HJ1.out (by have := HP12.out; have := HWH'.out; have := HJL.out; omega)
                  · have i3 : ¬ (j : Int) < (L1 : Nat) := by omega
                    go_wp2_with (go_at_call 6; refine (alive_any _).mono ?_; rintro e w13 ⟨rfl, hb⟩; have HB13 := Lib.hid (HBA.out.trans (hb.mono HBA.out.size)); clear hb)
                    go_ret
                    exact ⟨rfl, HB13.out⟩
    · have qn : ¬ (k : Int) < (n : Nat) := by omega
      obtain ⟨fs, hfs⟩ : ∃ fs, fs = Fr.frames q := ⟨_, rfl⟩
      obtain ⟨N, hN⟩ : ∃ N, N = fs.length := ⟨_, rfl⟩
      have hrow := HJ.out.1.1
      rw [← hfs, ← hN] at hrow
      have HNf := Lib.hid hN
      have HF256 := Lib.hid (show ∀ x ∈ fs, x < 256 from hfs ▸ frames_256 q HJ.out.1.2.1)
      have HNN := Lib.hid (show N ≤ 7200 by have := HJ.out.1.2.2.2.1; rw [← hfs, ← hN] at this; omega)
      have HBW := Lib.hid HJ.out.1.2.2.2.2
      obtain ⟨P, hP⟩ : ∃ P, P = q.length := ⟨_, rfl⟩
      have HP := Lib.hid hP
      have HP12 := Lib.hid (show P ≤ 12 by have := HJ.out.1.2.2.1; omega)
      have hre := HJ.out.2.1
      rw [← hP] at hre
      obtain ⟨A5, c5, rfl, hc5, -, -⟩ := ownG_slice hrow
      obtain ⟨A8, c8, rfl, -⟩ := ownG_slice hre
      obtain ⟨A9, c9, rfl, -⟩ := ownG_slice HJ.out.2.2.1
      obtain ⟨T, hT⟩ : ∃ T, T = tl.length := ⟨_, rfl⟩
      have HT := Lib.hid hT
      have hrt := HJ.out.2.2.1
      rw [← hT] at hrt ⊢
      have HRA := Lib.hid hrow
      have HRE := Lib.hid hre
      have HRT := Lib.hid (show wr.ownsRow W.heap.size 24 2 (.slice A9 T c9) tl.length (rcs tl) from by rw [← hT]; exact hrt)
      have HMAP := Lib.hid HJ.out.2.2.2.1
      have HMEM := Lib.hid HJ.out.2.2.2.2
      have HFINE := Lib.hid HJ.out.1.2.1
      have HFS := Lib.hid hfs
      obtain ⟨La, hLa⟩ : ∃ La : Nat, La = if last < 0 ∨ (N : Int) < last then N else last.toNat := ⟨_, rfl⟩
      have HLE := Lib.hid (show La ≤ N by rw [hLa]; split <;> omega)
      have HLc := Lib.hid hLa
      have HC5 := Lib.hid hc5
      clear hfs hN hrow hP hre hT hrt HJ hc5 hLa
      go_upto_region 13 with fail
      obtain ⟨bt, hbt⟩ : ∃ bt, bt = decide (last < 0 ∨ (N : Int) < last) := ⟨_, rfl⟩
      have HBT := Lib.hid hbt
      clear hbt
      go_cut [71] from 64 to 71 (fun t1 wx => t1 = .bool bt ∧ wx = wr)
      case first =>
        by_cases a1 : last < 0
        · have HL := Lib.hid (show bt = true by rw [HBT.out]; exact decide_eq_true (Or.inl a1))
          go_wp2_with fail
          go_meet
          exact ⟨by rw [HL.out], rfl⟩
        · by_cases a2 : (N : Int) < last
          · have HL := Lib.hid (show bt = true by rw [HBT.out]; exact decide_eq_true (Or.inr a2))
            go_wp2_with fail
            go_meet
            exact ⟨by rw [HL.out], rfl⟩
          · have HL := Lib.hid (show bt = false by rw [HBT.out]; exact decide_eq_false (by omega))
            go_wp2_with fail
            go_meet
            exact ⟨by rw [HL.out], rfl⟩
      case rest =>
        obtain ⟨rfl, rfl⟩ := hcut
        rename World => w0
        go_upto_if 71 with fail
        go_cut [1] from 72 to 73 (fun v1 wx => v1 = .int .i64 (La : Nat) ∧ wx = w0)
        case first =>
          cases bt with
          | true =>
            have HL := Lib.hid (show La = N by rw [HLc.out, if_pos (of_decide_eq_true HBT.out.symm)])
            go_wp2_with fail
            go_meet
            exact ⟨by rw [HL.out], rfl⟩
          | false =>
            have HL := Lib.hid (show (La : Int) = last by have h := of_decide_eq_false HBT.out.symm; rw [HLc.out, if_neg h]; omega)
            go_wp2_with fail
            go_meet
            exact ⟨by rw [HL.out], rfl⟩
        case rest =>
          obtain ⟨rfl, rfl⟩ := hcut
          rename World => w1
          have hs5 := (ownG_slice HRA.out)
          obtain ⟨A5', c5', e5, -, hs5, -⟩ := hs5
          simp only [Value.slice.injEq, true_and] at e5
          obtain ⟨rfl, rfl⟩ := e5
          obtain ⟨Z, hZ⟩ : ∃ Z, Z = N - La + bh := ⟨_, rfl⟩
          have HZZ := Lib.hid (w_zero N La bh Z HLE.out (by have := HNN.out; omega) HBH.out hZ)
          have HZL := Lib.hid (show Z ≤ 10000 by have := HNN.out; have := HBH.out; omega)
          have q1 : (La : Int) ≤ (c5 : Nat) := by have := HLE.out; have := HC5.out; omega
          have q2 : La ≤ c5 := by have := HLE.out; have := HC5.out; omega
          have hlit : (w1.alloc (.cells #[] 5)).ownsRow w1.heap.size 5 1 (.slice (some ⟨w1.heap.size, 0, none⟩) 0 0) 0 (u8s []) := World.ownsRow_lit (base := w1.heap.size) (size := 1) (e := 5) w1 #[] 0 (Nat.le_refl _) (by unfold maxLen; omega) rfl
          have hl1 := (Below.refl w1.heap.size w1).alloc (Nat.le_refl _) (.cells #[] 5)
          have hby : ByR w1 A5 fs ∧ (A5 = none → fs = []) := by
            have h := HRA.out
            rw [HNf.out] at h
            obtain ⟨A, c, e, -, h2, h3⟩ := own_byr h
            simp only [Value.slice.injEq] at e
            obtain ⟨rfl, -, -⟩ := e
            exact ⟨h2, h3⟩
          have hsrc : Src (w1.alloc (.cells #[] 5)) A5 La (u8s (fs.take La)) := by
            have h3 := ((byr_take La hby.1).next hl1).src (fun h => by rw [hby.2 h, List.take_nil])
            rwa [show (fs.take La).length = La by rw [List.length_take, ← HNf.out]; exact Nat.min_eq_left HLE.out] at h3
          have HL := Lib.hid (And.intro hlit hl1)
          have HS5 := Lib.hid hsrc
          have HTL := Lib.hid (show (fs.take La).length = La by rw [List.length_take, ← HNf.out]; exact Nat.min_eq_left HLE.out)
          have HLAL := Lib.hid (show La ≤ 7200 by have := HNN.out; have := HLE.out; omega)
          clear hs5 hZ hlit hl1 hby hsrc
          go_upto_region 16 with (first
            | (at_builtin; refine wpList_append_u8 _ rfl _ _ rfl w1.heap.size _ 0 (u8s []) rfl HL.out.1 A5 La c5 (u8s (fs.take La)) rfl (by rw [u8s_len]; exact HTL.out) HS5.out (u8s_one _) (by have := HLAL.out; omega) (by simp) ?_; intro v2 w2 hown hgrow hloc; have HB2 := Lib.hid (ownG_below hgrow HL.out.1 (Nat.le_refl _) (by simp) HL.out.2); rw [Nat.zero_add] at hown; have hown : w2.ownsRow w1.heap.size 5 1 v2 La (u8s (fs.take La)) := hown; obtain ⟨g2, c2, rfl⟩ := own_some hown (by intro h0; rcases hloc with e | e <;> rw [e] at h0 <;> first | exact absurd (show some w1.heap.size = none from h0) (by simp) | (simp at h0)); have HO2 := Lib.hid hown; clear hown hgrow hloc HL HS5)
            | (at_builtin; refine wpList_append_zeros _ rfl _ _ rfl w1.heap.size g2 La c2 (fs.take La) rfl HO2.out Z (congrArg (Value.int .i64) HZZ.out) (by have := HLAL.out; have := HZL.out; omega) HB2.out.size ?_; intro v3 w3 hown hgrow; have HB3 := Lib.hid (show Below w1.heap.size w1 w3 from ownG_below hgrow HO2.out (Nat.le_refl _) HB2.out.size HB2.out); have HO3 := Lib.hid hown; clear hown hgrow HO2 HB2))
          have hE3 := ownG_next HRE.out HB3.out
          have hT3 := ownG_next HRT.out HB3.out
          have HRE3 := Lib.hid hE3
          have HRT3 := Lib.hid hT3
          have HBW3 := Lib.hid (HBW.out.trans (HB3.out.mono HBW.out.size))
          clear hE3 hT3 q1 q2 HRA HRE HRT HB3
          obtain ⟨hwh, htr⟩ := Fr.torn_read (eF := 3) (eS := 9) q HFINE.out La Z (by rw [← HFS.out, ← HNf.out]; exact HLE.out)
          rw [← HFS.out, ← HP.out] at htr
          rw [← HP.out] at hwh
          have HTR := Lib.hid htr
          have HWH := Lib.hid hwh
          clear htr hwh
          have hO3 := HO3.out
          obtain ⟨NZ, hNZ⟩ : ∃ NZ, NZ = La + Z := ⟨_, rfl⟩
          have hbl : (fs.take La ++ List.replicate Z 0).length = NZ := by rw [List.length_append, HTL.out, List.length_replicate, hNZ]
          rw [← hNZ, ← hbl] at hO3
          obtain ⟨A3, c3, rfl, hc3, hr3, -⟩ := own_byr hO3
          rw [hbl] at hc3 ⊢
          have HBL := Lib.hid hbl
          have HC3 := Lib.hid hc3
          have HR3 := Lib.hid hr3
          have HNZ := Lib.hid (show NZ ≤ 20000 by have := HLAL.out; have := HZL.out; omega)
          have HB256 := Lib.hid (show ∀ x ∈ fs.take La ++ List.replicate Z 0, x < 256 from fun x hx => (List.mem_append.1 hx).elim (fun h => HF256.out x (List.mem_of_mem_take h)) (fun h => by rw [List.eq_of_mem_replicate h]; omega))
          obtain ⟨tb, htb⟩ : ∃ tb, tb = fs.take La ++ List.replicate Z 0 := ⟨_, rfl⟩
          rw [← htb] at HBL HR3 HB256 HTR
          clear hO3 hNZ hbl hc3 hr3 htb HO3
          go_upto_region 18 with fail
          go_loopw [14, 15, 16] (fun wv ev iv wx => ∃ i : Nat, i ≤ P ∧ iv = .int .i64 i ∧ wv = .int .i64 ((Fr.tornF La q i).1 : Nat) ∧ ev = .int .i64 ((Fr.tornF La q i).2 : Nat) ∧ Below w3.heap.size w3 wx) (fun _ _ i _ => 20 - (intOf i).toNat)
          case atStart => exact ⟨0, Nat.zero_le _, rfl, rfl, rfl, Below.refl _ _⟩
          case round =>
            obtain ⟨i, hi, rfl, rfl, rfl, hb⟩ := hrel
            have HBX := Lib.hid hb
            clear hb
            by_cases hiP : i < P
            · obtain ⟨g8, rfl, hc8⟩ := int_cell (ownG_next HRE3.out HBX.out) (ends_get q i (by rw [← HP.out]; exact hiP))
              obtain ⟨E, hE⟩ : ∃ E, E = Fr.endAt q i := ⟨_, rfl⟩
              rw [← hE] at hc8
              have HE := Lib.hid hE
              have i1 : (i : Int) < (P : Nat) := by omega
              obtain ⟨i', hi'⟩ : ∃ i', i' = i + 1 := ⟨_, rfl⟩
              have HI' := Lib.hid hi'
              have HIP := Lib.hid hiP
              have HWI := Lib.hid (w_one i i' hi' (by have := HP12.out; omega))
              have HIW := Lib.hid (show IntKind.i64.wrap ((i : Int) + 1) = (i' : Nat) by have := HP12.out; rw [IntKind.wrap_i64]; omega)
              clear hE hi'
              obtain ⟨th, hth⟩ : ∃ t, t = Fr.tornF La q i := ⟨_, rfl⟩
              rw [← hth]
              have HTH := Lib.hid hth
              clear hth
              by_cases hle : E ≤ La
              · have hle' : (E : Int) ≤ (La : Nat) := by omega
                have HTN := Lib.hid (show Fr.tornF La q i' = (i', E) by rw [HI'.out]; unfold Fr.tornF; rw [← HE.out, if_pos hle])
                clear hle
                go_upto_region 21 with fail
                refine wp_region_tree (S := (fun w' => w'.cell? ⟨g8, i, none⟩ = some (.int .i64 (E : Nat)))) (.take 0 (.take 1 (.take 2 (.take 3 (.take 4 (.take 5 (.take 6 (.take 7 .nil)))))))) 9999 (by kernel_rfl) (by kernel_rfl) (by kernel_rfl) (by kernel_rfl) (by kernel_rfl) (fun _ _ d _ _ h => by cases d <;> exact h) hc8 (fun hHeld => ?_); simp only [Tree.map, List.getElem?_toArray, List.getElem?_cons_zero, List.getElem?_cons_succ]
                (repeat (first | (refine wpTree.take (v := undef) (Or.inr ⟨by rfl, rfl⟩) ?_; simp only [Act.put, List.setIfInBounds_toArray, List.set_cons_zero, List.set_cons_succ]) | (refine wpTree.take (v := ?_) (Or.inl ⟨by rfl, ?_⟩) ?_; rotate_left; (focus (intro _ hS; (try dsimp only at hS); go_split_ands; (try subst hS); go_simp; (try (with_reducible rfl)); done)); simp only [Act.put, List.setIfInBounds_toArray, List.set_cons_zero, List.set_cons_succ])))
                refine wpTree.done ?_
                rw [HIW.out]
                clear hHeld hc8 i1 hle' hiP
                go_wp2_with fail
                go_roundw
                case rel => exact ⟨i', by rw [HI'.out]; exact HIP.out, by rw [HWI.out], by rw [HTN.out], by rw [HTN.out], HBX.out.drew⟩
                case measure => exact down_one 20 i i' _ HWI.out HI'.out (by have := HP12.out; have := HIP.out; omega)
              · have hle' : ¬ (E : Int) ≤ (La : Nat) := by omega
                have HTN := Lib.hid (show Fr.tornF La q i' = th by rw [HI'.out, HTH.out]; conv => lhs; unfold Fr.tornF
                                                                   rw [← HE.out, if_neg hle])
                clear hle
                go_wp2_with fail
                go_roundw
                case rel => exact ⟨i', by rw [HI'.out]; exact HIP.out, by rw [HWI.out], by rw [HTN.out], by rw [HTN.out], HBX.out⟩
                case measure => exact down_one 20 i i' _ HWI.out HI'.out (by have := HP12.out; have := HIP.out; omega)
            · obtain rfl : i = P := by omega
              have i1 : ¬ (i : Int) < (i : Nat) := by omega
              obtain ⟨th, hth⟩ : ∃ t, t = Fr.tornF La q i := ⟨_, rfl⟩
              rw [← hth] at HTR HWH ⊢
              obtain ⟨wh, te⟩ := th
              clear hth hiP hi
              go_upto_region 22 with fail
              have hR := read_any wr A3 NZ c3 tb HBL.out (by have := HNZ.out; omega) HC3.out (HR3.out.next HBX.out) HB256.out
              rw [HTR.out] at hR
              have HRR := Lib.hid hR
              have hWH := HWH.out
              simp only at hWH
              have HWH' := Lib.hid hWH
              clear hR hWH
              go_upto_region 23 with (go_at_call 9; refine HRR.out.mono ?_; rintro e w4 ⟨v4, l1, rfl, hown, hrec, hb⟩; have HO4 := Lib.hid hown; have HL4 := Lib.hid hrec; have HB4 := Lib.hid (HBX.out.trans (hb.mono HBX.out.size)); clear hown hrec hb HRR HBX)
              obtain ⟨A4, c4, rfl, -⟩ := ownG_slice HO4.out
              obtain ⟨L1, hL1⟩ : ∃ L, L = l1.length := ⟨_, rfl⟩
              have hLw : L1 = wh := by
                have := recs_len1 HL4.out
                rw [List.length_take, Nat.min_eq_left (by rw [← HP.out]; exact HWH'.out)] at this
                rw [hL1]; exact this
              have HO4' := Lib.hid (show w4.ownsRow wr.heap.size 24 2 (.slice A4 L1 c4) l1.length (rcs l1) from by rw [hL1]; exact HO4.out)
              rw [← hL1]
              subst hLw
              clear hL1 HO4
              go_upto_region 26 with fail
              go_loopw [20] (fun jv wx => ∃ j : Nat, j ≤ L1 ∧ jv = .int .i64 j ∧ Below w4.heap.size w4 wx) (fun j _ => 20 - (intOf j).toNat)
              case atStart => exact ⟨0, Nat.zero_le _, rfl, Below.refl _ _⟩
              case round =>
                obtain ⟨j, hj, rfl, hb⟩ := hrel
                have HBJ := Lib.hid hb
                clear hb
                have HBA := Lib.hid (HBW3.out.trans ((HB4.out.trans (HBJ.out.mono HB4.out.size)).mono HBW3.out.size))
                by_cases hjl : j < L1
                · obtain ⟨x1, x2, hx1, hx2, hxk, hxb⟩ := recs_told HL4.out HMAP.out (by rw [← HP.out]; exact HWH'.out) hjl
                  obtain ⟨g1, rfl, hr1⟩ := rec_src (ownG_next HO4'.out HBJ.out) hx1
                  obtain ⟨g2, rfl, hr2⟩ := rec_src (ownG_next (ownG_next HRT3.out HB4.out) HBJ.out) hx2
                  obtain ⟨r1a, r1b⟩ := recs_mem (HL4.out.next HBJ.out) hx1
                  have hok2 := (HOK.out x2 (HMEM.out x2 (List.mem_of_getElem? hx2))).next HBA.out
                  obtain ⟨p1, p2⟩ := rc_at hr1
                  obtain ⟨p3, p4⟩ := rc_at hr2
                  have k1 := conv_src wr.drew x1.A x1.bs.length x1.c x1.bs ((r1a.next (Below.refl _ _).drew).byr.src r1b) rfl (hxb ▸ hok2.h256)
                  have k2 := conv_src wr.drew x2.A x2.bs.length x2.c x2.bs ((hok2.rd.next (Below.refl _ _).drew).src hok2.hA) rfl hok2.h256
                  rw [hxb] at k1 p2
                  rw [hxk] at p1
                  have p1' : wr.drew.cell? ⟨g1, j * 2, none⟩ = some (.int .i64 x2.k) := p1
                  have p2' : wr.drew.cell? ⟨g1, j * 2 + 1, none⟩ = some (.slice x1.A x2.bs.length x1.c) := p2
                  have p3' : wr.drew.cell? ⟨g2, j * 2, none⟩ = some (.int .i64 x2.k) := p3
                  have p4' : wr.drew.cell? ⟨g2, j * 2 + 1, none⟩ = some (.slice x2.A x2.bs.length x2.c) := p4
                  have i1 : (j : Int) < (L1 : Nat) := by omega
                  have i2 : (j : Int) < (T : Nat) := by have := (List.getElem?_eq_some_iff.1 hx2).1; rw [← HT.out] at this; omega
                  have i3 : j < T := by have := (List.getElem?_eq_some_iff.1 hx2).1; rw [← HT.out] at this; omega
                  obtain ⟨j1, hj1⟩ : ∃ j1, j1 = j + 1 := ⟨_, rfl⟩
                  have HJ1 := Lib.hid hj1
                  have HJL := Lib.hid hjl
                  have HEV := Lib.hid (w_one j j1 hj1 (by have := HP12.out; have := HWH'.out; omega))
                  clear p1 p2 p3 p4 hx1 hx2 hxk hxb hr1 hr2 r1a r1b hok2 hj1 hj
                  go_upto_region 28 with fail
                  refine wp_region_tree (S := (fun w' => w' = wr.drew)) (.take 0 (.take 1 (.take 2 (.take 3 (.take 4 (.take 5 (.take 6 (.take 7 (.take 8 (.take 9 (.take 10 (.take 11 (.take 12 (.take 13 (.take 14 (.take 15 (.take 16 (.take 17 (.take 18 (.take 19 (.take 20 (.take 21 (.take 22 (.take 23 (.take 24 (.take 25 .nil)))))))))))))))))))))))))) 9999 (by kernel_rfl) (by kernel_rfl) (by kernel_rfl) (by kernel_rfl) (by kernel_rfl) (fun _ _ d _ _ h => by cases d <;> exact h) rfl (fun hHeld => ?_); simp only [Tree.map, List.getElem?_toArray, List.getElem?_cons_zero, List.getElem?_cons_succ]
                  (repeat (first | (refine wpTree.take (v := undef) (Or.inr ⟨by rfl, rfl⟩) ?_; simp only [Act.put, List.setIfInBounds_toArray, List.set_cons_zero, List.set_cons_succ]) | (refine wpTree.take (v := ?_) (Or.inl ⟨by rfl, ?_⟩) ?_; rotate_left; (focus (intro _ hS; (try dsimp only at hS); go_split_ands; (try subst hS); go_simp; (try (with_reducible rfl)); done)); simp only [Act.put, List.setIfInBounds_toArray, List.set_cons_zero, List.set_cons_succ])))
                  refine wpTree.done ?_
                  clear hHeld k1 k2 p1' p2' p3' p4' i1 i2 i3 hjl
                  go_wp2_with fail
                  go_roundw
                  case rel => exact ⟨j1, by rw [HJ1.out]; exact HJL.out, by rw [HEV.out], HBJ.out.drew⟩
                  case measure => exact down_one 20 j j1 _ HEV.out HJ1.out (by have := HP12.out; have := HWH'.out; have := HJL.out; omega)
                · have i3 : ¬ (j : Int) < (L1 : Nat) := by omega
                  go_wp2_with (go_at_call 6; refine (alive_any _).mono ?_; rintro e w13 ⟨rfl, hb⟩; have HB13 := Lib.hid (HBA.out.trans (hb.mono HBA.out.size)); clear hb)
                  go_ret
                  exact ⟨rfl, HB13.out⟩
set_option maxRecDepth 100000 in
theorem torn_lifted (os : Os) (started : os.Started) (H : Type) (enc : TypeId × Value → H) :
    ReturnsInHanded {} Try.checked os 4 .any (Rows.framesTornSpec.pre6 enc Try.prog Try.f4 Rows.framesTornRow.domain false) (Rows.framesTornSpec.post enc Try.prog Try.f4 false true false false) := by
  refine law_lift (C := Try.checked) own_knob started (by kernel_rfl) Try.func4 rfl Try.underlying4 laid_out (by kernel_rfl) rfl ?_
    (ChangeSpec.witness6 (enc := enc) (C := Try.checked) false ⟨#[], #[.slice none 0 0, .int .i64 0, .int .u8 0], []⟩ 8 (by kernel_rfl) (by kernel_rfl) (by kernel_rfl) (by kernel_rfl)) ?_
  · intro ds hds
    match ds, hds with
    | [_, _, _], _ => rfl
  intro W base args ds ps hval hA hlt hsz
  rw [Try.params4] at hA hval
  obtain ⟨v0, vs0, d0, ds0, p0, q0, hargs, rfl, rfl, h0, r0⟩ := trodAll_cons hA
  obtain ⟨v1, vs1, d1, ds1, p1, q1, rfl, rfl, rfl, h1, r1⟩ := trodAll_cons r0
  obtain ⟨v2, vs2, d2, ds2, p2, q2, rfl, rfl, rfl, h2, r2⟩ := trodAll_cons r1
  obtain ⟨rfl, rfl, rfl⟩ := trodAll_nil r2
  obtain rfl : args = #[v0, v1, v2] := by cases args; simp_all
  obtain ⟨A, c, l, rfl, hl, hc, hr, hok⟩ := open_rows Try.underlying32 2 cells_rc (by omega) Rc.cells (Rc.Ok W) ⟨0, none, 0, []⟩ rc_len (hval 0 32 v0 rfl rfl) h0 (fun x hx => hlt x (by simp [hx])) (fun _ _ _ _ h hlt => open_rc h hlt)
  obtain ⟨last, rfl, rfl, rfl, wl⟩ := open_int Try.underlying3 (hval 1 3 v1 rfl rfl) h1
  obtain ⟨z, rfl, rfl, rfl, wz⟩ := open_int Try.underlying5 (hval 2 5 v2 rfl rfl) h2
  have bl := bounds_i64 wl
  have bz := bounds_u8 wz
  obtain ⟨bh, rfl⟩ : ∃ bh : Nat, z = bh := ⟨z.toNat, by omega⟩
  exact torn_walk W A l.length c l last bh rfl bl.1 bl.2 (by omega) hr hok

theorem torn_holds : Rows.FramesTornSaid :=
  OpenClaim.holds_of_wide 4 Try.f4 rfl rfl rfl rfl rfl rfl rfl ⟨rfl, rfl, rfl, rfl, rfl⟩ rfl rfl rfl rfl rfl (by kernel_rfl) Try.func4 (by kernel_rfl)
    (of_decide_eq_true (by kernel_rfl)) (by unfold Func.isWrapper; first | (rw [if_pos (by decide +kernel)]; kernel_rfl) | (rw [if_neg (by decide +kernel)]; exact ⟨rfl, rfl⟩))
    (fun os started H enc _ => torn_lifted os started H enc)

end Go.Proofs.Ytejehmimidnaiaa

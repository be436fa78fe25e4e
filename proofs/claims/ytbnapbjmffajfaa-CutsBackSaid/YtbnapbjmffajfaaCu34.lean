/-
cuts: CutsBack's walk.
-/
import Derived.Test.YtbnapbjmffajfaaCu33
import Derived.Deep.CutBlock
namespace Go.Proofs.Ytbnapbjmffajfaa
open Go.RowKit
set_option linter.unusedSimpArgs false
set_option linter.unusedVariables false
namespace Cb
theorem lit_srcB {w : World} {bs : List Nat} {C : Array Value} {z : Nat × Nat} (h : C = (Byt.u8s bs).toArray) : Src (w.alloc (.cells C 5 z)) (some ⟨w.heap.size, 0, none⟩) bs.length (Byt.u8s bs) := by
  refine Or.inl ⟨_, rfl, fun j u hj => ?_⟩
  have hh := heap_alloc_new w (Obj.cells C 5 z)
  rw [Opn.add_plain, Nat.zero_add, cell_of_row _ w.heap.size _ _ _ _ hh, h, List.getElem?_toArray]
  exact hj
theorem u8s_oneB (bs : List Nat) : ∀ u ∈ Byt.u8s bs, u.oneCell' = true := by
  intro u hu
  unfold Byt.u8s at hu
  obtain ⟨x, _, rfl⟩ := List.mem_map.1 hu
  rfl
set_option maxHeartbeats 8000000 in
set_option maxRecDepth 20000 in
theorem back_walk (W : World) (A1 A2 : Option Addr) (n1 c1 n2 c2 : Nat) (l1 l2 : List Oc) (hl1 : l1.length = n1) (hl2 : l2.length = n2) (hr1 : RowsOf Oc.cells 17 W A1 l1) (hr2 : RowsOf Oc.cells 17 W A2 l2) (ho1 : ∀ x ∈ l1, StOk x.s) (ho2 : ∀ x ∈ l2, StOk x.s) :
    Calls Try.prog 5 #[.slice A1 n1 c1, .slice A2 n2 c2] W fun e W' => e = .returned (.bool true) ∧ Below W.heap.size W W' := by
  have HN := Lib.hid (new_ok W 1 2 rfl)
  have HL1 := Lib.hid hl1
  have HL2 := Lib.hid hl2
  have HR1 := Lib.hid hr1
  have HR2 := Lib.hid hr2
  have HO1 := Lib.hid ho1
  have HO2 := Lib.hid ho2
  clear hl1 hl2 hr1 hr2 ho1 ho2
  go_enter Try.func5, Try.ntmps5
  go_upto_region 5 with (first | (go_at_call 6; refine HN.out.mono ?_; rintro e w1 ⟨rfl, hT, hb, -⟩; have H1 := Lib.hid (show TA W (fun _ => False) w1 W.heap.size ⟨[], Sd.zero, Sd.zero⟩ from ⟨_, ⟨_, hT⟩, hb, Prot.none _ _⟩); clear hT hb HN))
  go_loopw [7] (fun i wr => ∃ j : Nat, j ≤ 60 ∧ i = .int .i64 j ∧ ∃ s : TS, s.Ok ∧ TA W (fun _ => False) wr W.heap.size s) (fun i _ => 60 - (intOf i).toNat)
  case atStart => exact ⟨0, by omega, rfl, _, ok_new, H1.out⟩
  case round =>
    clear H1
    obtain ⟨j, hj, rfl, s, hok, hA⟩ := hrel
    have HA := Lib.hid hA
    have HOK := Lib.hid hok
    clear hA hok
    by_cases hjl : j < n1 ∧ j < 60
    · obtain ⟨x, hx⟩ : ∃ x, l1[j]? = some x := ⟨_, List.getElem?_eq_getElem (by rw [HL1.out]; exact hjl.1)⟩
      have i1 : (j : Int) < (n1 : Nat) := by omega
      have i2 : (j : Int) < 60 := by omega
      have i3 : ¬ (j : Int) < 0 := by omega
      obtain ⟨b, o, rfl, hbl, hrx⟩ := oc_row HR1.out HA.out.b hx
      have HX := Lib.hid (HO1.out x (List.mem_of_getElem? hx))
      have HJL := Lib.hid hjl
      have HD := Lib.hid (HA.out.doing (by have := HOK.out.cuts.len; omega) x)
      clear hx hjl hj
      go_upto_region 7 with fail
      go_wp2_with (first | (refine wpList_load_mid rfl 54 _ rfl _ _ rfl x.cells _ hrx Try.underlying54 rfl (ocinfo x) ?_) | (go_at_call 12; refine HD.out.mono ?_; rintro e w2 ⟨rfl, h⟩; have H2 := Lib.hid h; clear h HD HA hrx))
      go_roundw
      case rel => exact ⟨j + 1, by have := HJL.out; omega, by go_num, _, ok_do HOK.out HX.out, H2.out⟩
      case measure => have := HJL.out; simp [intOf]; omega
    · have hor : ¬ (j : Int) < (n1 : Nat) ∨ ((j : Int) < (n1 : Nat) ∧ ¬ (j : Int) < 60) := by omega
      clear hjl hj
      obtain ⟨F0, hT0, hB0, -⟩ := HA.out
      have HT0 := Lib.hid (And.intro hT0 hB0)
      have HSV := Lib.hid (save_tt wr hT0 HOK.out)
      obtain ⟨en, hen⟩ : ∃ en, en = encS s := ⟨_, rfl⟩
      have HEN := Lib.hid hen
      rw [← hen] at HSV
      have HE := Lib.hid (show 1 ≤ en.length ∧ en.length ≤ 10000 ∧ ∀ y ∈ en, y < 256 by rw [hen]; exact ⟨HOK.out.len.1, HOK.out.len.2, encS_256 s⟩)
      clear hen hT0 hB0
      rcases hor with i1 | ⟨i1, i2⟩
      all_goals
        go_upto_region 9 with (first | (go_at_call 13; refine HSV.out.mono ?_; rintro e w2 ⟨g, cb, rfl, hcb, hgl, hby, hb⟩; have HB2 := Lib.hid hb; have HY2 := Lib.hid hby; have HC := Lib.hid hcb; have HG := Lib.hid hgl; clear hb hby hcb hgl HSV))
        (try clear i1)
        (try clear i2)
        have HLD := Lib.hid (load_ok (w := w2) HOK.out (g := g) (c := cb) (by rw [← HEN.out]; exact HC.out) (by rw [← HEN.out]; exact HY2.out))
        rw [← HEN.out] at HLD
        go_upto_region 10 with (first | (go_at_call 14; refine HLD.out.mono ?_; rintro e w4 ⟨u, G, rfl, hU, hb⟩; have HU := Lib.hid hU; have HB4 := Lib.hid hb; clear hU hb HLD))
        have HD := Lib.hid (td_start (g := g) (HT0.out.1.next HB2.out) (HT0.out.2.trans (HB2.out.mono HT0.out.2.size)) (fun k hk => by subst hk; exact ⟨HY2.out.1, fun h => by have := HT0.out.1.low k h; have := HG.out; omega⟩) HY2.out.1 HB4.out HU.out)
        have HY := Lib.hid (HY2.out.next HB4.out)
        clear HU HB4 HT0 HB2 HY2 HG
        have hen0 : (en.length : Int) ≠ 0 := by have := HE.out.1; omega
        have hen1 : ((en.length : Int) == 0) = false := by simpa using hen0
        have HSV := Lib.hid (show Calls Try.prog 13 #[.pointer (some ⟨u, 0, none⟩)] w4.drew fun e w' => ∃ g2 c2, e = .returned (.slice (some ⟨g2, 0, none⟩) en.length c2) ∧ ByB w' g2 en ∧ Below w4.drew.heap.size w4.drew w' from by
          obtain ⟨F, hF⟩ := (HD.out.next (Below.refl _ _).drew).symm.one
          refine (save_tt w4.drew hF HOK.out).mono ?_
          rintro e w' ⟨g2, c2, rfl, -, -, h1, h2⟩
          rw [← HEN.out] at h1
          exact ⟨g2, c2, by rw [HEN.out], h1, h2⟩)
        clear hen0
        have hY0 := HY.out
        have HCS := Lib.hid (show ∀ w g c, ByB w g en → (convert 55 9 (.slice (some ⟨g, 0, none⟩) en.length c)).run Try.prog w = .ok (.string (Byt.bstr en)) w from fun w g c h => Byt.conv_src w _ _ c en h.src rfl HE.out.2.2)
        refine wp_region_tree (S := (fun w' => ByB w' g en)) (.take 0 (.take 1 (.take 2 (.take 3 (.take 4 (.take 5 (.take 6 (.take 7 (.take 10 (.take 11 (.one 8 (.one 9 (.take 12 (.take 13 (.take 14 (.take 15 (.take 16 (.take 17 (.take 18 .nil))))))))))))))))))) 9999 (by kernel_rfl) (by kernel_rfl) (by kernel_rfl) (by kernel_rfl) (by kernel_rfl) (fun _ _ d _ _ h => by cases d <;> exact h) hY0 (fun hHeld => ?_); simp only [Tree.map, List.getElem?_toArray, List.getElem?_cons_zero, List.getElem?_cons_succ]
        (repeat (first | (refine wpTree.take (v := undef) (Or.inr ⟨by rfl, rfl⟩) ?_; simp only [Act.put, List.setIfInBounds_toArray, List.set_cons_zero, List.set_cons_succ]) | (refine wpTree.take (v := ?_) (Or.inl ⟨by rfl, ?_⟩) ?_; rotate_left; (focus (intro _ hS; (try dsimp only at hS); go_split_ands; (try subst hS); go_simp; (try (with_reducible rfl)); done)); simp only [Act.put, List.setIfInBounds_toArray, List.set_cons_zero, List.set_cons_succ]) | ((refine wpTree.take (v := .string (Byt.bstr en)) (Or.inl ⟨by rfl, ?_⟩) ?_); (focus (intro w' hS; have hcv := HCS.out w' g cb hS; clear hS; go_simp; done)); simp only [Act.put, List.setIfInBounds_toArray, List.set_cons_zero, List.set_cons_succ])))
        refine wpTree.one (fun K hK => ?_)
        go_simp
        go_at_call 13
        refine HSV.out.mono ?_
        rintro e w5 ⟨g2, c2, rfl, hby2, hb⟩
        have hb5 := ((Below.refl w4.heap.size w4).drew.trans hb)
        have HY5 := Lib.hid (HY.out.next hb5)
        have HD5 := Lib.hid (HD.out.next hb5)
        refine hK.out _ _ HY5.out (fun _ => ?_)
        clear hK K hHeld hb hb5 HY HD HSV hY0
        (try simp only [Act.put, List.setIfInBounds_toArray, List.set_cons_zero, List.set_cons_succ])
        have hcv := HCS.out w5 g2 c2 hby2
        refine wpTree.one (fun K hK => ?_)
        go_simp
        refine hK.out _ _ HY5.out (fun _ => ?_)
        clear hK K hcv hby2
        (try simp only [Act.put, List.setIfInBounds_toArray, List.set_cons_zero, List.set_cons_succ])
        (repeat (first | (refine wpTree.take (v := undef) (Or.inr ⟨by rfl, rfl⟩) ?_; simp only [Act.put, List.setIfInBounds_toArray, List.set_cons_zero, List.set_cons_succ]) | (refine wpTree.take (v := ?_) (Or.inl ⟨by rfl, ?_⟩) ?_; rotate_left; (focus (intro _ hS; (try dsimp only at hS); go_split_ands; (try subst hS); go_simp; (try (with_reducible rfl)); done)); simp only [Act.put, List.setIfInBounds_toArray, List.set_cons_zero, List.set_cons_succ])))
        refine wpTree.done ?_
        go_upto_region 13 with fail
        go_loopw [11] (fun i wx => ∃ j : Nat, j ≤ 40 ∧ i = .int .i64 j ∧ ∃ t : TS, t.Ok ∧ TD W (fun k => k = g) wx W.heap.size u t t ∧ ByB wx g en) (fun i _ => 40 - (intOf i).toNat)
        case atStart => exact ⟨0, by omega, rfl, s, HOK.out, HD5.out, HY5.out⟩
        case round =>
          clear HD5 HY5 HA
          obtain ⟨j, hj, rfl, t, hok, hD, hY⟩ := hrel
          have HD := Lib.hid hD
          have HY := Lib.hid hY
          have HOT := Lib.hid hok
          clear hD hY hok
          by_cases hjl : j < n2 ∧ j < 40
          · obtain ⟨x, hx⟩ : ∃ x, l2[j]? = some x := ⟨_, List.getElem?_eq_getElem (by rw [HL2.out]; exact hjl.1)⟩
            have i1 : (j : Int) < (n2 : Nat) := by omega
            have i2 : (j : Int) < 40 := by omega
            have i3 : ¬ (j : Int) < 0 := by omega
            obtain ⟨b, o, rfl, hbl, hrx⟩ := oc_row HR2.out HD.out.b hx
            have HX := Lib.hid (And.intro (HO2.out x (List.mem_of_getElem? hx)) (fun w hb => (oc_row HR2.out (w := w) hb hx)))
            have HJL := Lib.hid hjl
            clear hx hjl hj
            go_upto_region 15 with fail
            have HSR := Lib.hid (show ∀ w, Below W.heap.size W w → w.rangeAt b (o + j * 17) x.cells from fun w hb => by
              obtain ⟨b2, o2, e2, _, h2⟩ := HX.out.2 w hb
              simp only [Option.some.injEq, Addr.mk.injEq, and_true] at e2
              obtain ⟨rfl, rfl⟩ := e2
              exact h2)
            have HDO1 := Lib.hid ((HD.out.next (Below.refl wr.heap.size wr).drew).do1 (by have := HOT.out.cuts.len; omega) x)
            refine wp_region_tree (S := (fun w' => w'.rangeAt b (o + j * 17) x.cells)) (.take 0 (.take 1 (.take 2 (.take 3 (.take 4 (.take 6 (.take 7 (.take 8 (.take 9 (.take 10 (.one 5 (.one 11 (.take 12 .nil))))))))))))) 9999 (by kernel_rfl) (by kernel_rfl) (by kernel_rfl) (by kernel_rfl) (by kernel_rfl) (fun _ _ d _ _ h => by cases d <;> exact h) hrx (fun hHeld => ?_); simp only [Tree.map, List.getElem?_toArray, List.getElem?_cons_zero, List.getElem?_cons_succ]
            (repeat (first | (refine wpTree.take (v := undef) (Or.inr ⟨by rfl, rfl⟩) ?_; simp only [Act.put, List.setIfInBounds_toArray, List.set_cons_zero, List.set_cons_succ]) | (refine wpTree.take (v := .agg x.cells.toArray) (yieldsIf_load_mid rfl 54 _ rfl _ _ rfl x.cells _ (fun _ hS => hS) Try.underlying54 rfl (ocinfo x)) ?_; simp only [Act.put, List.setIfInBounds_toArray, List.set_cons_zero, List.set_cons_succ]) | (refine wpTree.take (v := ?_) (Or.inl ⟨by rfl, ?_⟩) ?_; rotate_left; (focus (intro _ hS; (try dsimp only at hS); go_split_ands; (try subst hS); go_simp; (try (with_reducible rfl)); done)); simp only [Act.put, List.setIfInBounds_toArray, List.set_cons_zero, List.set_cons_succ])))
            refine wpTree.one (fun K hK => ?_)
            go_simp
            go_at_call 12
            refine HDO1.out.mono ?_
            rintro e w6 ⟨rfl, h1, h2, h3⟩
            have HD6 := Lib.hid h1
            have HY6 := Lib.hid ((HY.out.next (Below.refl wr.heap.size wr).drew).kept h2 h3)
            refine hK.out _ _ (HSR.out _ HD6.out.b) (fun _ => ?_)
            clear hK K hHeld h1 h2 h3 HDO1 hrx
            (try simp only [Act.put, List.setIfInBounds_toArray, List.set_cons_zero, List.set_cons_succ])
            have HDO2 := Lib.hid (HD6.out.do2 (by have := HOT.out.cuts.len; omega) x)
            refine wpTree.one (fun K hK => ?_)
            go_simp
            go_at_call 12
            refine HDO2.out.mono ?_
            rintro e w7 ⟨rfl, h1, h2, h3⟩
            have HD7 := Lib.hid h1
            have HY7 := Lib.hid (HY6.out.kept h2 h3)
            refine hK.out _ _ (HSR.out _ HD7.out.b) (fun _ => ?_)
            clear hK K h1 h2 h3 HDO2 HD6 HY6 HSR HD HY
            (try simp only [Act.put, List.setIfInBounds_toArray, List.set_cons_zero, List.set_cons_succ])
            (repeat (first | (refine wpTree.take (v := undef) (Or.inr ⟨by rfl, rfl⟩) ?_; simp only [Act.put, List.setIfInBounds_toArray, List.set_cons_zero, List.set_cons_succ]) | (refine wpTree.take (v := ?_) (Or.inl ⟨by rfl, ?_⟩) ?_; rotate_left; (focus (intro _ hS; (try dsimp only at hS); go_split_ands; (try subst hS); go_simp; (try (with_reducible rfl)); done)); simp only [Act.put, List.setIfInBounds_toArray, List.set_cons_zero, List.set_cons_succ])))
            refine wpTree.done ?_
            go_wp2_with fail
            go_roundw
            case rel => exact ⟨j + 1, by have := HJL.out; omega, by go_num, _, ok_do HOT.out HX.out.1, HD7.out, HY7.out⟩
            case measure => have := HJL.out; simp [intOf]; omega
          · have hor : ¬ (j : Int) < (n2 : Nat) ∨ ((j : Int) < (n2 : Nat) ∧ ¬ (j : Int) < 40) := by omega
            clear hjl hj
            obtain ⟨em, hem⟩ : ∃ em, em = encS t := ⟨_, rfl⟩
            have HEM := Lib.hid hem
            have HSV1 := Lib.hid (show ∀ w, Below wr.heap.size wr w → Calls Try.prog 13 #[.pointer (some ⟨W.heap.size, 0, none⟩)] w fun e w' => ∃ g2 c2, e = .returned (.slice (some ⟨g2, 0, none⟩) em.length c2) ∧ ByB w' g2 em ∧ Below w.heap.size w w' from fun w hb => by
              obtain ⟨F, hF⟩ := (HD.out.next hb).one
              refine (save_tt w hF HOT.out).mono ?_
              rintro e w' ⟨g2, c2, rfl, -, -, h1, h2⟩
              rw [← HEM.out] at h1
              exact ⟨g2, c2, by rw [HEM.out], h1, h2⟩)
            have HSV2 := Lib.hid (show ∀ w, Below wr.heap.size wr w → Calls Try.prog 13 #[.pointer (some ⟨u, 0, none⟩)] w fun e w' => ∃ g2 c2, e = .returned (.slice (some ⟨g2, 0, none⟩) em.length c2) ∧ ByB w' g2 em ∧ Below w.heap.size w w' from fun w hb => by
              obtain ⟨F, hF⟩ := (HD.out.next hb).symm.one
              refine (save_tt w hF HOT.out).mono ?_
              rintro e w' ⟨g2, c2, rfl, -, -, h1, h2⟩
              rw [← HEM.out] at h1
              exact ⟨g2, c2, by rw [HEM.out], h1, h2⟩)
            have HCM := Lib.hid (show ∀ w g c, ByB w g em → (convert 55 9 (.slice (some ⟨g, 0, none⟩) em.length c)).run Try.prog w = .ok (.string (Byt.bstr em)) w from fun w g c h => Byt.conv_src w _ _ c em h.src rfl (by rw [HEM.out]; exact encS_256 t))
            obtain ⟨n0, hn0⟩ : ∃ n0, en.length = n0 + 1 := ⟨en.length - 1, by have := HE.out.1; omega⟩
            have HN0 := Lib.hid hn0
            have HCB := Lib.hid (show n0 + 1 ≤ cb by rw [← hn0]; exact HC.out)
            have HLE := Lib.hid (show n0 ≤ 10000 by have := HE.out.2.1; omega)
            have HNO1 := Lib.hid (fun w (hb : Below wr.heap.size wr w) => load_less (w := w) HOK.out (g := g) (c := cb) (n := n0) (by have := HCB.out; omega) (by rw [← HEN.out, HN0.out]; omega) (by rw [← HEN.out]; exact HY.out.next hb))
            have HSRC := Lib.hid (fun w (hb : Below wr.heap.size wr w) => (show Src w (some ⟨g, 0, none⟩) (n0 + 1) (Byt.u8s en) from hn0 ▸ (HY.out.next hb).src))
            have HLEN := Lib.hid (show (Byt.u8s en).length = n0 + 1 by unfold Byt.u8s; rw [List.length_map, hn0])
            rw [hn0]
            clear hn0 hem
            have hcb0 : cb ≠ 0 := by have := HCB.out; omega
            have i5 : (n0 : Int) ≤ (cb : Nat) := by have := HCB.out; omega
            have i6 : (0 : Int) ≤ (n0 : Nat) := by omega
            have e1 := wr_id n0 (by have := HLE.out; omega)
            rcases hor with i1 | ⟨i1, i2⟩
            all_goals
              go_upto_region 18 with (first | (go_at_call 14; refine (HNO1.out _ (Below.refl _ _)).mono ?_; rintro e w13 ⟨rfl, hb⟩; have HB13 := Lib.hid hb; clear hb HNO1))
              (try clear i1)
              (try clear i2)
              clear e1 i5 i6 hcb0
              go_upto_region 19 with (first | (at_builtin; refine append_u8g _ rfl _ _ rfl w13.heap.size v14 (n0 + 1) (Byt.u8s [] ++ Byt.u8s en) rfl HO15.out (some ⟨w14.heap.size, 0, none⟩) 1 1 (Byt.u8s [0]) rfl rfl HS15.out (u8s_oneB _) (by have := HLE.out; omega) HB15.out.size ?_; intro v16 w16 hown hgrow hloc; have HB16 := Lib.hid (HB13.out.trans ((ownG_below hgrow HO15.out (Nat.le_refl _) HB15.out.size HB15.out).mono HB13.out.size)); have HNO2 := Lib.hid (load_more HOK.out (by rw [← HEN.out]; exact HN0.out) (by rw [← HEN.out]; exact hown)); clear hown hgrow hloc) | (at_builtin; refine append_u8g _ rfl _ _ rfl w13.heap.size _ 0 (Byt.u8s []) rfl (World.ownsRow_lit (base := w13.heap.size) (size := 1) (e := 5) w13 #[] 0 (Nat.le_refl _) (by unfold maxLen; omega) rfl) (some ⟨g, 0, none⟩) (n0 + 1) cb (Byt.u8s en) rfl HLEN.out (HSRC.out _ (HB13.out.trans (((Below.refl w13.heap.size w13).alloc (Nat.le_refl _) _).mono HB13.out.size))) (u8s_oneB _) (by have := HLE.out; omega) (by simp) ?_; intro v14 w14 hown hgrow hloc; have HB14 := Lib.hid (ownG_below hgrow (World.ownsRow_lit (base := w13.heap.size) (size := 1) (e := 5) w13 #[] 0 (Nat.le_refl _) (by unfold maxLen; omega) rfl) (Nat.le_refl _) (by simp) ((Below.refl w13.heap.size w13).alloc (Nat.le_refl _) (.cells #[] 5))); rw [Nat.zero_add] at hown; have hb15 := (Below.refl w14.heap.size w14).alloc (Nat.le_refl _) (.cells #[.int .u8 0] 5); have HO15 := Lib.hid (ownG_next hown hb15); have HB15 := Lib.hid (HB14.out.trans (hb15.mono HB14.out.size)); have HS15 := Lib.hid (lit_srcB (w := w14) (bs := [0]) (C := #[.int .u8 0]) (z := (0, 0)) rfl); clear hown hgrow hloc hb15 HB14) | (go_at_call 14; refine HNO2.out.mono ?_; rintro e w17 ⟨rfl, hb⟩; have HB17 := Lib.hid (HB16.out.trans (hb.mono HB16.out.size)); clear hb HNO2))
              have HALV := Lib.hid (alive_any w17.drew)
              refine wp_region_tree (S := (fun _ => True)) (.one 0 (.take 1 (.take 2 (.take 5 (.one 3 (.two 4 (.one 6 (.one 7 (.take 8 (.take 9 (.take 10 (.take 11 (.take 12 (.take 13 (.take 14 (.take 15 (.take 16 (.take 17 (.take 18 .nil))))))))))))) 6 (.two 4 (.one 7 (.take 8 (.take 9 (.take 10 (.take 11 (.take 12 (.take 13 (.take 14 (.take 15 (.take 16 (.take 17 (.take 18 .nil)))))))))))) 7 (.one 4 (.take 8 (.take 9 (.take 10 (.take 11 (.take 12 (.take 13 (.take 14 (.take 15 (.take 16 (.take 17 (.take 18 .nil))))))))))))))))))) 9999 (by kernel_rfl) (by kernel_rfl) (by kernel_rfl) (by kernel_rfl) (by kernel_rfl) (fun _ _ d _ _ h => by cases d <;> exact h) trivial (fun hHeld => ?_); simp only [Tree.map, List.getElem?_toArray, List.getElem?_cons_zero, List.getElem?_cons_succ]
              refine wpTree.one (fun K hK => ?_)
              go_simp
              go_at_call 10
              refine HALV.out.mono ?_
              rintro e w18 ⟨rfl, hb⟩
              have HB18 := Lib.hid (HB17.out.trans (((Below.refl w17.heap.size w17).drew.trans hb).mono HB17.out.size))
              refine hK.out _ _ trivial (fun _ => ?_)
              clear hK K hb hHeld HALV
              (try simp only [Act.put, List.setIfInBounds_toArray, List.set_cons_zero, List.set_cons_succ])
              (repeat (first | (refine wpTree.take (v := undef) (Or.inr ⟨by rfl, rfl⟩) ?_; simp only [Act.put, List.setIfInBounds_toArray, List.set_cons_zero, List.set_cons_succ]) | (refine wpTree.take (v := ?_) (Or.inl ⟨by rfl, ?_⟩) ?_; rotate_left; (focus (intro _ hS; (try dsimp only at hS); go_split_ands; (try subst hS); go_simp; (try (with_reducible rfl)); done)); simp only [Act.put, List.setIfInBounds_toArray, List.set_cons_zero, List.set_cons_succ])))
              refine wpTree.one (fun K hK => ?_)
              go_simp
              go_at_call 13
              refine (HSV1.out _ HB18.out).mono ?_
              rintro e w19 ⟨g3, c3, rfl, hby3, hb⟩
              have HB19 := Lib.hid (HB18.out.trans (hb.mono HB18.out.size))
              have HY3 := Lib.hid hby3
              refine hK.out _ _ trivial (fun _ => ?_)
              clear hK K hb hby3
              (try simp only [Act.put, List.setIfInBounds_toArray, List.set_cons_zero, List.set_cons_succ])
              refine wpTree.two ?_ ?_
              · have hcv := HCM.out w19 g3 c3 HY3.out
                refine wpTree.one (fun K hK => ?_)
                go_simp
                refine hK.out _ _ trivial (fun _ => ?_)
                clear hK K hcv
                (try simp only [Act.put, List.setIfInBounds_toArray, List.set_cons_zero, List.set_cons_succ])
                refine wpTree.one (fun K hK => ?_)
                go_simp
                go_at_call 13
                refine (HSV2.out _ HB19.out).mono ?_
                rintro e w20 ⟨g4, c4, rfl, hby4, hb⟩
                have HB20 := Lib.hid (HB19.out.trans (hb.mono HB19.out.size))
                have HY3b := Lib.hid (HY3.out.next hb)
                have HY4 := Lib.hid hby4
                refine hK.out _ _ trivial (fun _ => ?_)
                clear hK K hb hby4
                (try simp only [Act.put, List.setIfInBounds_toArray, List.set_cons_zero, List.set_cons_succ])
                have hcv := HCM.out w20 g4 c4 HY4.out
                refine wpTree.one (fun K hK => ?_)
                go_simp
                refine hK.out _ _ trivial (fun _ => ?_)
                clear hK K hcv
                (try simp only [Act.put, List.setIfInBounds_toArray, List.set_cons_zero, List.set_cons_succ])
                (repeat (first | (refine wpTree.take (v := undef) (Or.inr ⟨by rfl, rfl⟩) ?_; simp only [Act.put, List.setIfInBounds_toArray, List.set_cons_zero, List.set_cons_succ]) | (refine wpTree.take (v := ?_) (Or.inl ⟨by rfl, ?_⟩) ?_; rotate_left; (focus (intro _ hS; (try dsimp only at hS); go_split_ands; (try subst hS); go_simp; (try (with_reducible rfl)); done)); simp only [Act.put, List.setIfInBounds_toArray, List.set_cons_zero, List.set_cons_succ])))
                refine wpTree.done ?_
                go_wp2_with fail
                go_ret
                exact ⟨rfl, HD.out.b.trans (HB20.out.mono HD.out.b.size)⟩
              · refine wpTree.one (fun K hK => ?_)
                go_simp
                go_at_call 13
                refine (HSV2.out _ HB19.out).mono ?_
                rintro e w20 ⟨g4, c4, rfl, hby4, hb⟩
                have HB20 := Lib.hid (HB19.out.trans (hb.mono HB19.out.size))
                have HY3b := Lib.hid (HY3.out.next hb)
                have HY4 := Lib.hid hby4
                refine hK.out _ _ trivial (fun _ => ?_)
                clear hK K hb hby4
                (try simp only [Act.put, List.setIfInBounds_toArray, List.set_cons_zero, List.set_cons_succ])
                refine wpTree.two ?_ ?_
                · have hcv := HCM.out w20 g3 c3 HY3b.out
                  refine wpTree.one (fun K hK => ?_)
                  go_simp
                  refine hK.out _ _ trivial (fun _ => ?_)
                  clear hK K hcv
                  (try simp only [Act.put, List.setIfInBounds_toArray, List.set_cons_zero, List.set_cons_succ])
                  have hcv := HCM.out w20 g4 c4 HY4.out
                  refine wpTree.one (fun K hK => ?_)
                  go_simp
                  refine hK.out _ _ trivial (fun _ => ?_)
                  clear hK K hcv
                  (try simp only [Act.put, List.setIfInBounds_toArray, List.set_cons_zero, List.set_cons_succ])
                  (repeat (first | (refine wpTree.take (v := undef) (Or.inr ⟨by rfl, rfl⟩) ?_; simp only [Act.put, List.setIfInBounds_toArray, List.set_cons_zero, List.set_cons_succ]) | (refine wpTree.take (v := ?_) (Or.inl ⟨by rfl, ?_⟩) ?_; rotate_left; (focus (intro _ hS; (try dsimp only at hS); go_split_ands; (try subst hS); go_simp; (try (with_reducible rfl)); done)); simp only [Act.put, List.setIfInBounds_toArray, List.set_cons_zero, List.set_cons_succ])))
                  refine wpTree.done ?_
                  go_wp2_with fail
                  go_ret
                  exact ⟨rfl, HD.out.b.trans (HB20.out.mono HD.out.b.size)⟩
                · have hcv := HCM.out w20 g4 c4 HY4.out
                  refine wpTree.one (fun K hK => ?_)
                  go_simp
                  refine hK.out _ _ trivial (fun _ => ?_)
                  clear hK K hcv
                  (try simp only [Act.put, List.setIfInBounds_toArray, List.set_cons_zero, List.set_cons_succ])
                  have hcv := HCM.out w20 g3 c3 HY3b.out
                  refine wpTree.one (fun K hK => ?_)
                  go_simp
                  refine hK.out _ _ trivial (fun _ => ?_)
                  clear hK K hcv
                  (try simp only [Act.put, List.setIfInBounds_toArray, List.set_cons_zero, List.set_cons_succ])
                  (repeat (first | (refine wpTree.take (v := undef) (Or.inr ⟨by rfl, rfl⟩) ?_; simp only [Act.put, List.setIfInBounds_toArray, List.set_cons_zero, List.set_cons_succ]) | (refine wpTree.take (v := ?_) (Or.inl ⟨by rfl, ?_⟩) ?_; rotate_left; (focus (intro _ hS; (try dsimp only at hS); go_split_ands; (try subst hS); go_simp; (try (with_reducible rfl)); done)); simp only [Act.put, List.setIfInBounds_toArray, List.set_cons_zero, List.set_cons_succ])))
                  refine wpTree.done ?_
                  go_wp2_with fail
                  go_ret
                  exact ⟨rfl, HD.out.b.trans (HB20.out.mono HD.out.b.size)⟩
end Cb
end Go.Proofs.Ytbnapbjmffajfaa

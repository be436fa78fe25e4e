/-
MarkLattice holds: the join covers all that may be, and does not hang on order, repetition or parts. No condition.
-/
import Derived.Test.YtggcjcobonijfaaMkMath
import Derived.Test.YtggcjcobonijfaaMkOpen
import Derived.Test.YtggcjcobonijfaaMkRows
import Derived.Deep.CutRange
namespace Go.Proofs.Ytggcjcobonijfaa
open Go.RowKit
attribute [local go_sem] Tot.run_store_float

set_option maxRecDepth 20000 in
set_option maxHeartbeats 8000000 in
theorem lattice_walk (A : Option Addr) (n c : Nat) (l : List Mk) (turn cut : Int) (W : World) (hn : l.length = n) (hlen : n ≤ 9223372036854775807) (ht : -9223372036854775808 ≤ turn ∧ turn < 9223372036854775808) (hct : -9223372036854775808 ≤ cut ∧ cut < 9223372036854775808) (h : RMks W A l) (hp : ∀ m ∈ l, m.p < 18446744073709551616) :
    Calls Try.prog 5 #[.slice A n c, .int .i64 turn, .int .i64 cut] W fun e W' => e = .returned (.bool true) ∧ Below W.heap.size W W' := by
  have HP := Lib.hid hp
  have HN := Lib.hid hn
  have HV := Lib.hid h
  have HTB := Lib.hid ht
  have HCB := Lib.hid hct
  clear hp hn h ht hct
  go_enter Try.func5, Try.ntmps5
  by_cases hbig : n ≤ 100
  · have h1 : ¬ (100 : Int) < (n : Nat) := by omega
    go_wp2_with fail
    refine (marks_any A n c l W HN.out (by omega) HV.out).mono ?_
    rintro e w1 ⟨v, rfl, ho, hb⟩
    obtain ⟨A1, c1, rfl, hnc, -, hm⟩ := ho.mks
    have HB1 := Lib.hid hb
    have HM1 := Lib.hid hm
    have HO1 := Lib.hid ho
    have HNC := Lib.hid hnc
    clear h1 hb hm ho hnc HV
    go_wp2_with fail
    refine (mjoin_any A1 n c1 l w1 HN.out hlen HM1.out HP.out).mono ?_
    rintro e w2 ⟨rfl, hb⟩
    have HB2 := Lib.hid (HB1.out.trans (hb.mono HB1.out.size))
    have HM2 := Lib.hid (HM1.out.next hb)
    clear hb HB1 HM1 HO1
    obtain ⟨J, hJ⟩ : ∃ J, J = joinM l := ⟨_, rfl⟩
    have HJ := Lib.hid hJ
    rw [← hJ]
    clear hJ
    go_wp2_with (first | (refine wpList_store_blk rfl 29 _ _ rfl (w2).heap.size 29 #[.int .i64 0, .bool false, .float .f64 0] J.cells.toArray rfl rfl (Blk.new' rfl) (mkinfoA _) (mk_siz _) (mk_one _) ?_; intro hy; have hbn : Below (w2).heap.size w2 (((w2).alloc (.cells #[.int .i64 0, .bool false, .float .f64 0] 29)).setRow (w2).heap.size J.cells.toArray) := below_setRow ((Below.refl _ _).alloc (Nat.le_refl _) _) (Nat.le_refl _) _; obtain ⟨w3, hnw⟩ : ∃ w3, w3 = (((w2).alloc (.cells #[.int .i64 0, .bool false, .float .f64 0] 29)).setRow (w2).heap.size J.cells.toArray) := ⟨_, rfl⟩; rw [← hnw] at hbn hy ⊢; clear hnw; have HT3 := Lib.hid hy; have HM3 := Lib.hid (HM2.out.next hbn); have HB3 := Lib.hid (HB2.out.trans (hbn.mono HB2.out.size)); clear hy hbn HB2 HM2))
    have HS0 := Lib.hid (show ∀ w, Calls Try.prog 15 #[.agg zM.cells.toArray, .agg #[.int .i64 0, .bool false, .float .f64 0]] w fun e W' => e = .returned (.bool true) ∧ Below w.heap.size w W' from fun w => by rw [← zM_arr]; have := msame_any zM w zM; rwa [sameM_self] at this)
    go_loopw [9] (fun i wr => ∃ k : Nat, k ≤ n ∧ i = .int .i64 k ∧ Below w3.heap.size w3 wr) (fun i _ => n - (intOf i).toNat)
    case atStart => exact ⟨0, Nat.zero_le _, rfl, Below.refl _ _⟩
    case round =>
      obtain ⟨k, hk, rfl, hbl⟩ := hrel
      have HBL := Lib.hid hbl
      by_cases hlt : k < n
      · have h1 : (k : Int) < (n : Nat) := by omega
        have hkl : k < l.length := by have := HN.out; omega
        obtain ⟨b, o, rfl, hbs, hcell⟩ := HM3.out.resolve_left (by rintro rfl; simp at hkl)
        have hr : wr.rangeAt b (o + k * 3) l[k].cells := mrange_next hbl (hcell k hkl)
        have hT := (HT3.out.next hbl).range
        obtain ⟨m, hm⟩ : ∃ m, m = l[k] := ⟨_, rfl⟩
        have HMP := Lib.hid (show m.p < 18446744073709551616 from by rw [hm]; exact HP.out _ (List.getElem_mem hkl))
        have HJP := Lib.hid (show J.p < 18446744073709551616 from by rw [HJ.out]; exact (joinM_R HP.out).2)
        have HC := Lib.hid (show rightM m = true → coversM J m = true from by rw [HJ.out, hm]; exact covers_mem HP.out (List.getElem_mem hkl))
        rw [← hm] at hr
        have HR := Lib.hid (mright_any m)
        clear hcell hbs hm hbl
        cases hrm : rightM m with
        | false =>
          rw [hrm] at HR
          clear hrm HC
          go_wp2_with fail
          refine wp_region_tree (S := (fun W' => Below (wr).heap.size wr W')) (.take 0 (.take 1 (.take 2 (.take 3 (.one 4 (.take 5 (.take 6 (.take 7 (.take 8 (.take 9 (.take 10 (.one 11 (.take 12 (.take 13 .nil)))))))))))))) 9999 (by kernel_rfl) (by kernel_rfl) (by kernel_rfl) (by kernel_rfl) (by kernel_rfl) (fun _ _ d _ _ h => by cases d <;> exact h) ?_ (fun hHeld => ?_); (focus (exact (Below.refl _ _).drew)); simp only [Tree.map, List.getElem?_toArray, List.getElem?_cons_zero, List.getElem?_cons_succ]
          (repeat (first | (refine wpTree.take (v := undef) (Or.inr ⟨by rfl, rfl⟩) ?_; simp only [Act.put, List.setIfInBounds_toArray, List.set_cons_zero, List.set_cons_succ]) | (refine wpTree.take (v := .agg (Mk.cells ?_).toArray) (yieldsIf_load_mid rfl 29 _ rfl _ _ rfl (Mk.cells _) _ ?_ Try.underlying29 rfl (mkinfo _)) ?_; rotate_left; (focus (intro _ hS; refine mrange_next hS ?_; assumption)); simp only [Act.put, List.setIfInBounds_toArray, List.set_cons_zero, List.set_cons_succ]) | (refine wpTree.take (v := ?_) (Or.inl ⟨by rfl, ?_⟩) ?_; rotate_left; (focus (intro _ hS; (try dsimp only at hS); go_split_ands; (try subst hS); go_simp; (try (with_reducible rfl)); done)); simp only [Act.put, List.setIfInBounds_toArray, List.set_cons_zero, List.set_cons_succ])))
          refine wpTree.one (fun K hK => ?_)
          go_simp
          go_at_call 14
          refine (HR.out _).mono ?_
          rintro e y1 ⟨rfl, hby1⟩
          have hBelow := Below.trans hHeld (hby1.mono (Below.size hHeld))
          refine hK.out _ _ hBelow (fun hHeld' => ?_)
          clear hK K hHeld hby1 hBelow
          have hHeld := hHeld'
          clear hHeld'
          (repeat (first | (refine wpTree.take (v := undef) (Or.inr ⟨by rfl, rfl⟩) ?_; simp only [Act.put, List.setIfInBounds_toArray, List.set_cons_zero, List.set_cons_succ]) | (refine wpTree.take (v := .agg (Mk.cells ?_).toArray) (yieldsIf_load_mid rfl 29 _ rfl _ _ rfl (Mk.cells _) _ ?_ Try.underlying29 rfl (mkinfo _)) ?_; rotate_left; (focus (intro _ hS; refine mrange_next hS ?_; assumption)); simp only [Act.put, List.setIfInBounds_toArray, List.set_cons_zero, List.set_cons_succ]) | (refine wpTree.take (v := .agg (Tt.cells ?_).toArray) (yieldsIf_load_mid rfl 47 _ rfl _ _ rfl (Tt.cells _) _ ?_ Try.underlying47 rfl (ttinfo _)) ?_; rotate_left; (focus (intro _ hS; refine mrange_next hS ?_; assumption)); simp only [Act.put, List.setIfInBounds_toArray, List.set_cons_zero, List.set_cons_succ]) | (refine wpTree.take (v := ?_) (Or.inl ⟨by rfl, ?_⟩) ?_; rotate_left; (focus (intro _ hS; (try dsimp only at hS); go_split_ands; (try subst hS); go_simp; (try (with_reducible rfl)); done)); simp only [Act.put, List.setIfInBounds_toArray, List.set_cons_zero, List.set_cons_succ])))
          refine wpTree.one (fun K hK => ?_)
          go_simp
          refine hK.out _ _ hHeld (fun _ => ?_)
          clear hK K
          (repeat (first | (refine wpTree.take (v := undef) (Or.inr ⟨by rfl, rfl⟩) ?_; simp only [Act.put, List.setIfInBounds_toArray, List.set_cons_zero, List.set_cons_succ]) | (refine wpTree.take (v := .agg (Mk.cells ?_).toArray) (yieldsIf_load_mid rfl 29 _ rfl _ _ rfl (Mk.cells _) _ ?_ Try.underlying29 rfl (mkinfo _)) ?_; rotate_left; (focus (intro _ hS; refine mrange_next hS ?_; assumption)); simp only [Act.put, List.setIfInBounds_toArray, List.set_cons_zero, List.set_cons_succ]) | (refine wpTree.take (v := ?_) (Or.inl ⟨by rfl, ?_⟩) ?_; rotate_left; (focus (intro _ hS; (try dsimp only at hS); go_split_ands; (try subst hS); go_simp; (try (with_reducible rfl)); done)); simp only [Act.put, List.setIfInBounds_toArray, List.set_cons_zero, List.set_cons_succ])))
          refine wpTree.done ?_
          have HBL2 := Lib.hid (HBL.out.trans (hHeld.mono HBL.out.size))
          clear hHeld hr hT HBL
          go_wp2_with fail
          go_roundw
          case rel => exact ⟨k + 1, by omega, by go_num, HBL2.out⟩
          case measure => simp [intOf]; omega
        | true =>
          rw [hrm] at HR
          have HCV := Lib.hid (mcovers_any J m HJP.out HMP.out)
          rw [HC.out hrm] at HCV
          clear hrm HC
          go_wp2_with fail
          refine wp_region_tree (S := (fun W' => Below (wr).heap.size wr W')) (.take 0 (.take 1 (.take 2 (.take 3 (.one 4 (.take 5 (.take 6 (.take 7 (.take 8 (.take 9 (.take 10 (.one 11 (.take 12 (.take 13 .nil)))))))))))))) 9999 (by kernel_rfl) (by kernel_rfl) (by kernel_rfl) (by kernel_rfl) (by kernel_rfl) (fun _ _ d _ _ h => by cases d <;> exact h) ?_ (fun hHeld => ?_); (focus (exact (Below.refl _ _).drew)); simp only [Tree.map, List.getElem?_toArray, List.getElem?_cons_zero, List.getElem?_cons_succ]
          (repeat (first | (refine wpTree.take (v := undef) (Or.inr ⟨by rfl, rfl⟩) ?_; simp only [Act.put, List.setIfInBounds_toArray, List.set_cons_zero, List.set_cons_succ]) | (refine wpTree.take (v := .agg (Mk.cells ?_).toArray) (yieldsIf_load_mid rfl 29 _ rfl _ _ rfl (Mk.cells _) _ ?_ Try.underlying29 rfl (mkinfo _)) ?_; rotate_left; (focus (intro _ hS; refine mrange_next hS ?_; assumption)); simp only [Act.put, List.setIfInBounds_toArray, List.set_cons_zero, List.set_cons_succ]) | (refine wpTree.take (v := ?_) (Or.inl ⟨by rfl, ?_⟩) ?_; rotate_left; (focus (intro _ hS; (try dsimp only at hS); go_split_ands; (try subst hS); go_simp; (try (with_reducible rfl)); done)); simp only [Act.put, List.setIfInBounds_toArray, List.set_cons_zero, List.set_cons_succ])))
          refine wpTree.one (fun K hK => ?_)
          go_simp
          go_at_call 14
          refine (HR.out _).mono ?_
          rintro e y1 ⟨rfl, hby1⟩
          have hBelow := Below.trans hHeld (hby1.mono (Below.size hHeld))
          refine hK.out _ _ hBelow (fun hHeld' => ?_)
          clear hK K hHeld hby1 hBelow
          have hHeld := hHeld'
          clear hHeld'
          (repeat (first | (refine wpTree.take (v := undef) (Or.inr ⟨by rfl, rfl⟩) ?_; simp only [Act.put, List.setIfInBounds_toArray, List.set_cons_zero, List.set_cons_succ]) | (refine wpTree.take (v := .agg (Mk.cells ?_).toArray) (yieldsIf_load_mid rfl 29 _ rfl _ _ rfl (Mk.cells _) _ ?_ Try.underlying29 rfl (mkinfo _)) ?_; rotate_left; (focus (intro _ hS; refine mrange_next hS ?_; assumption)); simp only [Act.put, List.setIfInBounds_toArray, List.set_cons_zero, List.set_cons_succ]) | (refine wpTree.take (v := .agg (Tt.cells ?_).toArray) (yieldsIf_load_mid rfl 47 _ rfl _ _ rfl (Tt.cells _) _ ?_ Try.underlying47 rfl (ttinfo _)) ?_; rotate_left; (focus (intro _ hS; refine mrange_next hS ?_; assumption)); simp only [Act.put, List.setIfInBounds_toArray, List.set_cons_zero, List.set_cons_succ]) | (refine wpTree.take (v := ?_) (Or.inl ⟨by rfl, ?_⟩) ?_; rotate_left; (focus (intro _ hS; (try dsimp only at hS); go_split_ands; (try subst hS); go_simp; (try (with_reducible rfl)); done)); simp only [Act.put, List.setIfInBounds_toArray, List.set_cons_zero, List.set_cons_succ])))
          refine wpTree.one (fun K hK => ?_)
          go_simp
          go_at_call 19
          refine (HCV.out _).mono ?_
          rintro e y2 ⟨rfl, hby2⟩
          have hBelow := Below.trans hHeld (hby2.mono (Below.size hHeld))
          refine hK.out _ _ hBelow (fun hHeld' => ?_)
          clear hK K hHeld hby2 hBelow
          have hHeld := hHeld'
          clear hHeld'
          (repeat (first | (refine wpTree.take (v := undef) (Or.inr ⟨by rfl, rfl⟩) ?_; simp only [Act.put, List.setIfInBounds_toArray, List.set_cons_zero, List.set_cons_succ]) | (refine wpTree.take (v := .agg (Mk.cells ?_).toArray) (yieldsIf_load_mid rfl 29 _ rfl _ _ rfl (Mk.cells _) _ ?_ Try.underlying29 rfl (mkinfo _)) ?_; rotate_left; (focus (intro _ hS; refine mrange_next hS ?_; assumption)); simp only [Act.put, List.setIfInBounds_toArray, List.set_cons_zero, List.set_cons_succ]) | (refine wpTree.take (v := .agg (Tt.cells ?_).toArray) (yieldsIf_load_mid rfl 47 _ rfl _ _ rfl (Tt.cells _) _ ?_ Try.underlying47 rfl (ttinfo _)) ?_; rotate_left; (focus (intro _ hS; refine mrange_next hS ?_; assumption)); simp only [Act.put, List.setIfInBounds_toArray, List.set_cons_zero, List.set_cons_succ]) | (refine wpTree.take (v := ?_) (Or.inl ⟨by rfl, ?_⟩) ?_; rotate_left; (focus (intro _ hS; (try dsimp only at hS); go_split_ands; (try subst hS); go_simp; (try (with_reducible rfl)); done)); simp only [Act.put, List.setIfInBounds_toArray, List.set_cons_zero, List.set_cons_succ])))
          refine wpTree.done ?_
          have HBL2 := Lib.hid (HBL.out.trans (hHeld.mono HBL.out.size))
          clear hHeld hr hT HBL
          go_wp2_with fail
          go_roundw
          case rel => exact ⟨k + 1, by omega, by go_num, HBL2.out⟩
          case measure => simp [intOf]; omega
      · obtain rfl : n = k := by omega
        have HBW := Lib.hid (HB3.out.trans (hbl.mono HB3.out.size))
        have HT := Lib.hid (HT3.out.next hbl)
        have HM := Lib.hid (HM3.out.next hbl)
        clear HB3 HT3 HM3 HBL hbl hlt hk
        by_cases h0 : n = 0
        · have h00 : ((n : Nat) : Int) = 0 := by omega
          have hJz : J = zM := by rw [HJ.out, List.eq_nil_of_length_eq_zero (HN.out.trans h0)]; rfl
          rw [hJz] at HT
          subst h0
          clear hJz HM
          go_wp2_with fail
          refine (alive7_any wr).mono ?_
          rintro e z1 ⟨rfl, hb⟩
          have HB4 := Lib.hid (HBW.out.trans (hb.mono HBW.out.size))
          have hr := (HT.out.next hb).range
          clear hb HBW HT
          go_wp2_with (first | (refine wpList_load_midm (by rfl) 29 _ rfl _ _ rfl (Mk.cells ?_) _ ?_ Try.underlying29 rfl (mkinfo _) ?_; rotate_left; (focus assumption)))
          refine (HS0.out _).mono ?_
          rintro e z2 ⟨rfl, hb⟩
          have HB5 := Lib.hid (HB4.out.trans (hb.mono HB4.out.size))
          clear hb HB4 hr
          go_wp2_with fail
          go_ret
          exact ⟨rfl, HB5.out⟩
        · have h00 : ¬ ((n : Nat) : Int) = 0 := by omega
          have h01 : (((n : Nat) : Int) == 0) = false := by simpa using h0
          by_cases hgood : (0 ≤ turn ∧ turn < (n : Int)) ∧ (0 ≤ cut ∧ cut ≤ (n : Int))
          · obtain ⟨⟨g1, g2⟩, g3, g4⟩ := hgood
            obtain ⟨t, rfl⟩ : ∃ t : Nat, turn = t := ⟨turn.toNat, by omega⟩
            obtain ⟨q, rfl⟩ : ∃ q : Nat, cut = q := ⟨cut.toNat, by omega⟩
            have g5 : ¬ ((t : Nat) : Int) < 0 := by omega
            have g6 : ¬ ((n : Nat) : Int) ≤ (t : Nat) := by omega
            have g7 : ¬ ((q : Nat) : Int) < 0 := by omega
            have g8 : ¬ ((n : Nat) : Int) < (q : Nat) := by omega
            obtain ⟨b, o, rfl, hbs, -⟩ := HM.out.resolve_left (by rintro rfl; have := HN.out; simp at this; omega)
            have HLC := Lib.hid (show l.length ≤ c1 from by rw [HN.out]; exact HNC.out)
            have HTL := Lib.hid (show t ≤ l.length from by rw [HN.out]; omega)
            have HQL := Lib.hid (show q ≤ l.length from by rw [HN.out]; omega)
            have g9 : ((t : Nat) : Int) ≤ (n : Nat) := by omega
            have g10 : ((t : Nat) : Int) ≤ (c1 : Nat) := by have := HNC.out; omega
            have g11 : ((q : Nat) : Int) ≤ (c1 : Nat) := by have := HNC.out; omega
            have g12 : ¬ c1 = t := by have := HNC.out; omega
            have HMD := Lib.hid (show ∀ w', Below wr.heap.size wr w' → Mks w' (some ⟨b, o + t * 3, none⟩) (l.drop t) from fun w' hb => by have := mks_drop (HM.out.next hb) HLC.out HTL.out; rwa [if_neg g12] at this)
            clear hbs
            go_upto_region 14 with fail
            go_cut [10] from 69 to 77 (fun x wx => ∃ A2 c2, x = .slice A2 n c2 ∧ Mks wx A2 (l.drop t ++ l.take t) ∧ Below wr.heap.size wr wx)
            case first =>
              refine wp_region_tree (S := (fun W' => Below (wr).heap.size wr W')) (.take 1 (.take 2 (.take 3 (.take 5 (.take 6 (.take 7 (.one 0 (.one 4 (.one 8 (.take 9 .nil)))))))))) 9999 (by kernel_rfl) (by kernel_rfl) (by kernel_rfl) (by kernel_rfl) (by kernel_rfl) (fun _ _ d _ _ h => by cases d <;> exact h) ?_ (fun hHeld => ?_); (focus (exact (Below.refl _ _).drew)); simp only [Tree.map, List.getElem?_toArray, List.getElem?_cons_zero, List.getElem?_cons_succ]
              obtain ⟨d0, hdw⟩ : ∃ d0, d0 = wr.drew := ⟨_, rfl⟩
              rw [← hdw] at hHeld ⊢
              clear hdw
              (repeat (first | (refine wpTree.take (v := undef) (Or.inr ⟨by rfl, rfl⟩) ?_; simp only [Act.put, List.setIfInBounds_toArray, List.set_cons_zero, List.set_cons_succ]) | (refine wpTree.take (v := ?_) (Or.inl ⟨by rfl, ?_⟩) ?_; rotate_left; (focus (intro _ hS; (try dsimp only at hS); go_split_ands; (try subst hS); go_simp; (try (with_reducible rfl)); done)); simp only [Act.put, List.setIfInBounds_toArray, List.set_cons_zero, List.set_cons_succ])))
              refine wpTree.one (fun K hK => ?_)
              go_simp
              have hb := (Below.refl d0.heap.size d0).alloc (Nat.le_refl _) (.cells #[] 29)
              have hnb := World.ownsRow_lit (base := d0.heap.size) (size := 3) (e := 29) d0 #[] 0 (Nat.le_refl _) (by unfold maxLen; omega) rfl
              have HOs := Lib.hid (Below.size hHeld)
              obtain ⟨y1, hnw⟩ : ∃ y1, y1 = d0.alloc (.cells #[] 29) := ⟨_, rfl⟩
              rw [← hnw] at hb hnb ⊢
              clear hnw
              have hBelow := Below.trans hHeld (hb.mono (Below.size hHeld))
              refine hK.out _ _ hBelow (fun hHeld' => ?_)
              clear hK K hHeld hBelow
              have hHeld := hHeld'
              clear hHeld'
              have HBz := Lib.hid (hb.size)
              clear hb
              have HO := Lib.hid (show OwnM y1 d0.heap.size (.slice (some ⟨d0.heap.size, 0, none⟩) 0 0) 0 [] from hnb)
              clear hnb
              (try simp only [Act.put, List.setIfInBounds_toArray, List.set_cons_zero, List.set_cons_succ])
              (repeat (first | (refine wpTree.take (v := undef) (Or.inr ⟨by rfl, rfl⟩) ?_; simp only [Act.put, List.setIfInBounds_toArray, List.set_cons_zero, List.set_cons_succ]) | (refine wpTree.take (v := ?_) (Or.inl ⟨by rfl, ?_⟩) ?_; rotate_left; (focus (intro _ hS; (try dsimp only at hS); go_split_ands; (try subst hS); go_simp; (try (with_reducible rfl)); done)); simp only [Act.put, List.setIfInBounds_toArray, List.set_cons_zero, List.set_cons_succ])))
              refine wpTree.one (fun K hK => ?_)
              refine step_append_mks (by rfl) _ _ rfl d0.heap.size _ (0) [] rfl HO.out _ ((n - t)) _ (l.drop t) rfl (by rw [List.length_drop, HN.out]) (HMD.out _ hHeld) (by intro a h; first | (cases h; rfl) | (split at h <;> (cases h; rfl))) (by omega) HBz.out ?_
              intro vy2 y2 hown hgrow
              have hBelow := Below.grown hHeld hgrow (Below.size hHeld) (fun b hb => by have h1 := (HO.out.lt b hb).1; have := HOs.out; omega)
              replace HBz := Lib.hid (Nat.le_trans HBz.out hgrow.size)
              refine hK.out _ _ hBelow (fun hHeld' => ?_)
              clear hK K hHeld hBelow
              have hHeld := hHeld'
              clear hHeld'
              replace HO := Lib.hid hown
              clear hown hgrow
              (try simp only [Act.put, List.setIfInBounds_toArray, List.set_cons_zero, List.set_cons_succ])
              (repeat (first | (refine wpTree.take (v := undef) (Or.inr ⟨by rfl, rfl⟩) ?_; simp only [Act.put, List.setIfInBounds_toArray, List.set_cons_zero, List.set_cons_succ]) | (refine wpTree.take (v := ?_) (Or.inl ⟨by rfl, ?_⟩) ?_; rotate_left; (focus (intro _ hS; (try dsimp only at hS); go_split_ands; (try subst hS); go_simp; (try (with_reducible rfl)); done)); simp only [Act.put, List.setIfInBounds_toArray, List.set_cons_zero, List.set_cons_succ])))
              refine wpTree.one (fun K hK => ?_)
              refine step_append_mks (by rfl) _ _ rfl d0.heap.size _ (0 + (n - t)) ([] ++ (l.drop t)) rfl HO.out _ (t) _ (l.take t) rfl (by rw [List.length_take, HN.out]; omega) (mks_take (HM.out.next hHeld) t) (by intro a h; first | (cases h; rfl) | (split at h <;> (cases h; rfl))) (by omega) HBz.out ?_
              intro vy3 y3 hown hgrow
              have hBelow := Below.grown hHeld hgrow (Below.size hHeld) (fun b hb => by have h1 := (HO.out.lt b hb).1; have := HOs.out; omega)
              replace HBz := Lib.hid (Nat.le_trans HBz.out hgrow.size)
              refine hK.out _ _ hBelow (fun hHeld' => ?_)
              clear hK K hHeld hBelow
              have hHeld := hHeld'
              clear hHeld'
              replace HO := Lib.hid hown
              clear hown hgrow
              (try simp only [Act.put, List.setIfInBounds_toArray, List.set_cons_zero, List.set_cons_succ])
              (repeat (first | (refine wpTree.take (v := undef) (Or.inr ⟨by rfl, rfl⟩) ?_; simp only [Act.put, List.setIfInBounds_toArray, List.set_cons_zero, List.set_cons_succ]) | (refine wpTree.take (v := ?_) (Or.inl ⟨by rfl, ?_⟩) ?_; rotate_left; (focus (intro _ hS; (try dsimp only at hS); go_split_ands; (try subst hS); go_simp; (try (with_reducible rfl)); done)); simp only [Act.put, List.setIfInBounds_toArray, List.set_cons_zero, List.set_cons_succ])))
              refine wpTree.done ?_
              go_wp2_with fail
              go_meet
              obtain ⟨A2, c2, e2, _, _, hm2⟩ := HO.out.mks
              rw [show 0 + (n - t) + t = n by omega] at e2
              exact ⟨A2, c2, e2, hm2, hHeld⟩
            case rest =>
              obtain ⟨A2, c2, rfl, h1, h2⟩ := hcut
              have HX2 := Lib.hid h1
              replace HBW := Lib.hid (HBW.out.trans (h2.mono HBW.out.size))
              replace HT := Lib.hid (HT.out.next h2)
              replace HM := Lib.hid (HM.out.next h2)
              clear h1 h2 HMD
              go_upto_region 15 with fail
              rename World => x1
              have htl : t < l.length := by have := HN.out; omega
              obtain ⟨m, hm⟩ : ∃ m, m = l[t] := ⟨_, rfl⟩
              have hr : x1.rangeAt b (o + t * 3) m.cells := by rw [hm]; exact mks_get HM.out htl
              have HMT := Lib.hid (show joinM (l ++ [m]) = joinM l from joinM_twice HP.out (by rw [hm]; exact List.getElem_mem htl))
              have HMP := Lib.hid (show m.p < 18446744073709551616 from by rw [hm]; exact HP.out _ (List.getElem_mem htl))
              clear hm htl
              go_cut [11] from 78 to 86 (fun x wx => ∃ A3 c3, x = .slice A3 (n + 1) c3 ∧ Mks wx A3 (l ++ [m]) ∧ Below x1.heap.size x1 wx)
              case first =>
                refine wp_region_tree (S := (fun W' => Below (x1).heap.size x1 W')) (.take 1 (.take 3 (.take 4 (.take 5 (.take 6 (.two 0 (.two 2 (.one 7 (.one 8 (.take 9 .nil))) 7 (.one 2 (.one 8 (.take 9 .nil)))) 7 (.one 0 (.one 2 (.one 8 (.take 9 .nil)))))))))) 9999 (by kernel_rfl) (by kernel_rfl) (by kernel_rfl) (by kernel_rfl) (by kernel_rfl) (fun _ _ d _ _ h => by cases d <;> exact h) ?_ (fun hHeld => ?_); (focus (exact (Below.refl _ _).drew)); simp only [Tree.map, List.getElem?_toArray, List.getElem?_cons_zero, List.getElem?_cons_succ]
                obtain ⟨d1, hdw⟩ : ∃ d1, d1 = x1.drew := ⟨_, rfl⟩
                rw [← hdw] at hHeld ⊢
                clear hdw
                (repeat (first | (refine wpTree.take (v := undef) (Or.inr ⟨by rfl, rfl⟩) ?_; simp only [Act.put, List.setIfInBounds_toArray, List.set_cons_zero, List.set_cons_succ]) | (refine wpTree.take (v := .agg (Mk.cells ?_).toArray) (yieldsIf_load_mid rfl 29 _ rfl _ _ rfl (Mk.cells _) _ ?_ Try.underlying29 rfl (mkinfo _)) ?_; rotate_left; (focus (intro _ hS; refine mrange_next hS ?_; assumption)); simp only [Act.put, List.setIfInBounds_toArray, List.set_cons_zero, List.set_cons_succ]) | (refine wpTree.take (v := ?_) (Or.inl ⟨by rfl, ?_⟩) ?_; rotate_left; (focus (intro _ hS; (try dsimp only at hS); go_split_ands; (try subst hS); go_simp; (try (with_reducible rfl)); done)); simp only [Act.put, List.setIfInBounds_toArray, List.set_cons_zero, List.set_cons_succ])))
                refine wpTree.two ?_ ?_
                · refine wpTree.one (fun K hK => ?_)
                  go_simp
                  have hb := (Below.refl d1.heap.size d1).alloc (Nat.le_refl _) (.cells #[] 29)
                  have hnb := World.ownsRow_lit (base := d1.heap.size) (size := 3) (e := 29) d1 #[] 0 (Nat.le_refl _) (by unfold maxLen; omega) rfl
                  have HOs := Lib.hid (Below.size hHeld)
                  obtain ⟨y4, hnw⟩ : ∃ y4, y4 = d1.alloc (.cells #[] 29) := ⟨_, rfl⟩
                  rw [← hnw] at hb hnb ⊢
                  clear hnw
                  have hBelow := Below.trans hHeld (hb.mono (Below.size hHeld))
                  refine hK.out _ _ hBelow (fun hHeld' => ?_)
                  clear hK K hHeld hBelow
                  have hHeld := hHeld'
                  clear hHeld'
                  have HBz := Lib.hid (hb.size)
                  clear hb
                  have HO := Lib.hid (show OwnM y4 d1.heap.size (.slice (some ⟨d1.heap.size, 0, none⟩) 0 0) 0 [] from hnb)
                  clear hnb
                  (try simp only [Act.put, List.setIfInBounds_toArray, List.set_cons_zero, List.set_cons_succ])
                  (repeat (first | (refine wpTree.take (v := undef) (Or.inr ⟨by rfl, rfl⟩) ?_; simp only [Act.put, List.setIfInBounds_toArray, List.set_cons_zero, List.set_cons_succ]) | (refine wpTree.take (v := ?_) (Or.inl ⟨by rfl, ?_⟩) ?_; rotate_left; (focus (intro _ hS; (try dsimp only at hS); go_split_ands; (try subst hS); go_simp; (try (with_reducible rfl)); done)); simp only [Act.put, List.setIfInBounds_toArray, List.set_cons_zero, List.set_cons_succ])))
                  refine wpTree.two ?_ ?_
                  · refine wpTree.one (fun K hK => ?_)
                    refine step_append_mks (by rfl) _ _ rfl d1.heap.size _ (0) [] rfl HO.out _ (n) _ l rfl (HN.out) (HM.out.next hHeld) (by intro a h; first | (cases h; rfl) | (split at h <;> (cases h; rfl))) (by omega) HBz.out ?_
                    intro vy5 y5 hown hgrow
                    have hBelow := Below.grown hHeld hgrow (Below.size hHeld) (fun b hb => by have h1 := (HO.out.lt b hb).1; have := HOs.out; omega)
                    replace HBz := Lib.hid (Nat.le_trans HBz.out hgrow.size)
                    refine hK.out _ _ hBelow (fun hHeld' => ?_)
                    clear hK K hHeld hBelow
                    have hHeld := hHeld'
                    clear hHeld'
                    replace HO := Lib.hid hown
                    clear hown hgrow
                    (try simp only [Act.put, List.setIfInBounds_toArray, List.set_cons_zero, List.set_cons_succ])
                    (repeat (first | (refine wpTree.take (v := undef) (Or.inr ⟨by rfl, rfl⟩) ?_; simp only [Act.put, List.setIfInBounds_toArray, List.set_cons_zero, List.set_cons_succ]) | (refine wpTree.take (v := ?_) (Or.inl ⟨by rfl, ?_⟩) ?_; rotate_left; (focus (intro _ hS; (try dsimp only at hS); go_split_ands; (try subst hS); go_simp; (try (with_reducible rfl)); done)); simp only [Act.put, List.setIfInBounds_toArray, List.set_cons_zero, List.set_cons_succ])))
                    refine wpTree.one (fun K hK => ?_)
                    refine step_buildMks [m] 1 _ (by rfl) rfl rfl (by decide) (by decide) zmks_1 (by simp [mkParts]; rfl) ?_
                    have hb := (Below.refl y5.heap.size y5).alloc (Nat.le_refl _) (.cells ([m].flatMap Mk.cells).toArray 29)
                    have hnb := Blk.new y5 29 ([m].flatMap Mk.cells).toArray
                    have HXO := Lib.hid (fun k e => (HO.out.lt k e).2)
                    have HXs := Lib.hid (Below.size hHeld)
                    obtain ⟨y6, hnw⟩ : ∃ y6, y6 = y5.alloc (.cells ([m].flatMap Mk.cells).toArray 29) := ⟨_, rfl⟩
                    rw [← hnw] at hb hnb ⊢
                    clear hnw
                    have hBelow := Below.trans hHeld (hb.mono (Below.size hHeld))
                    refine hK.out _ _ hBelow (fun hHeld' => ?_)
                    clear hK K hHeld hBelow
                    have hHeld := hHeld'
                    clear hHeld'
                    replace HO := Lib.hid (HO.out.next hb)
                    replace HBz := Lib.hid (Nat.le_trans HBz.out hb.size)
                    clear hb
                    have HX := Lib.hid hnb
                    clear hnb
                    (try simp only [Act.put, List.setIfInBounds_toArray, List.set_cons_zero, List.set_cons_succ])
                    (repeat (first | (refine wpTree.take (v := undef) (Or.inr ⟨by rfl, rfl⟩) ?_; simp only [Act.put, List.setIfInBounds_toArray, List.set_cons_zero, List.set_cons_succ]) | (refine wpTree.take (v := ?_) (Or.inl ⟨by rfl, ?_⟩) ?_; rotate_left; (focus (intro _ hS; (try dsimp only at hS); go_split_ands; (try subst hS); go_simp; (try (with_reducible rfl)); done)); simp only [Act.put, List.setIfInBounds_toArray, List.set_cons_zero, List.set_cons_succ])))
                    refine wpTree.one (fun K hK => ?_)
                    refine step_append_mks (by rfl) _ _ rfl d1.heap.size _ (0 + n) ([] ++ l) rfl HO.out _ (1) _ [m] rfl (rfl) (mks_blk HX.out) (by intro a h; first | (cases h; rfl) | (split at h <;> (cases h; rfl))) (by omega) HBz.out ?_
                    intro vy7 y7 hown hgrow
                    have hBelow := Below.grown hHeld hgrow (Below.size hHeld) (fun b hb => by have h1 := (HO.out.lt b hb).1; have := HOs.out; omega)
                    replace HBz := Lib.hid (Nat.le_trans HBz.out hgrow.size)
                    refine hK.out _ _ hBelow (fun hHeld' => ?_)
                    clear hK K hHeld hBelow
                    have hHeld := hHeld'
                    clear hHeld'
                    replace HO := Lib.hid hown
                    clear hown hgrow
                    (try simp only [Act.put, List.setIfInBounds_toArray, List.set_cons_zero, List.set_cons_succ])
                    (repeat (first | (refine wpTree.take (v := undef) (Or.inr ⟨by rfl, rfl⟩) ?_; simp only [Act.put, List.setIfInBounds_toArray, List.set_cons_zero, List.set_cons_succ]) | (refine wpTree.take (v := ?_) (Or.inl ⟨by rfl, ?_⟩) ?_; rotate_left; (focus (intro _ hS; (try dsimp only at hS); go_split_ands; (try subst hS); go_simp; (try (with_reducible rfl)); done)); simp only [Act.put, List.setIfInBounds_toArray, List.set_cons_zero, List.set_cons_succ])))
                    refine wpTree.done ?_
                    go_wp2_with fail
                    go_meet
                    obtain ⟨A2, c2, e2, _, _, hm2⟩ := HO.out.mks
                    rw [Nat.zero_add] at e2
                    exact ⟨A2, c2, e2, hm2, hHeld⟩
                  · refine wpTree.one (fun K hK => ?_)
                    refine step_buildMks [m] 1 _ (by rfl) rfl rfl (by decide) (by decide) zmks_1 (by simp [mkParts]; rfl) ?_
                    have hb := (Below.refl y4.heap.size y4).alloc (Nat.le_refl _) (.cells ([m].flatMap Mk.cells).toArray 29)
                    have hnb := Blk.new y4 29 ([m].flatMap Mk.cells).toArray
                    have HXO := Lib.hid (fun k e => (HO.out.lt k e).2)
                    have HXs := Lib.hid (Below.size hHeld)
                    obtain ⟨y8, hnw⟩ : ∃ y8, y8 = y4.alloc (.cells ([m].flatMap Mk.cells).toArray 29) := ⟨_, rfl⟩
                    rw [← hnw] at hb hnb ⊢
                    clear hnw
                    have hBelow := Below.trans hHeld (hb.mono (Below.size hHeld))
                    refine hK.out _ _ hBelow (fun hHeld' => ?_)
                    clear hK K hHeld hBelow
                    have hHeld := hHeld'
                    clear hHeld'
                    replace HO := Lib.hid (HO.out.next hb)
                    replace HBz := Lib.hid (Nat.le_trans HBz.out hb.size)
                    clear hb
                    have HX := Lib.hid hnb
                    clear hnb
                    (try simp only [Act.put, List.setIfInBounds_toArray, List.set_cons_zero, List.set_cons_succ])
                    (repeat (first | (refine wpTree.take (v := undef) (Or.inr ⟨by rfl, rfl⟩) ?_; simp only [Act.put, List.setIfInBounds_toArray, List.set_cons_zero, List.set_cons_succ]) | (refine wpTree.take (v := ?_) (Or.inl ⟨by rfl, ?_⟩) ?_; rotate_left; (focus (intro _ hS; (try dsimp only at hS); go_split_ands; (try subst hS); go_simp; (try (with_reducible rfl)); done)); simp only [Act.put, List.setIfInBounds_toArray, List.set_cons_zero, List.set_cons_succ])))
                    refine wpTree.one (fun K hK => ?_)
                    refine step_append_mks (by rfl) _ _ rfl d1.heap.size _ (0) [] rfl HO.out _ (n) _ l rfl (HN.out) (HM.out.next hHeld) (by intro a h; first | (cases h; rfl) | (split at h <;> (cases h; rfl))) (by omega) HBz.out ?_
                    intro vy9 y9 hown hgrow
                    have hBelow := Below.grown hHeld hgrow (Below.size hHeld) (fun b hb => by have h1 := (HO.out.lt b hb).1; have := HOs.out; omega)
                    replace HX := Lib.hid ((hgrow.block _ HX.out.lt (fun e => Nat.lt_irrefl _ (HXO.out _ e.symm))).trans HX.out)
                    replace HBz := Lib.hid (Nat.le_trans HBz.out hgrow.size)
                    refine hK.out _ _ hBelow (fun hHeld' => ?_)
                    clear hK K hHeld hBelow
                    have hHeld := hHeld'
                    clear hHeld'
                    replace HO := Lib.hid hown
                    clear hown hgrow
                    (try simp only [Act.put, List.setIfInBounds_toArray, List.set_cons_zero, List.set_cons_succ])
                    (repeat (first | (refine wpTree.take (v := undef) (Or.inr ⟨by rfl, rfl⟩) ?_; simp only [Act.put, List.setIfInBounds_toArray, List.set_cons_zero, List.set_cons_succ]) | (refine wpTree.take (v := ?_) (Or.inl ⟨by rfl, ?_⟩) ?_; rotate_left; (focus (intro _ hS; (try dsimp only at hS); go_split_ands; (try subst hS); go_simp; (try (with_reducible rfl)); done)); simp only [Act.put, List.setIfInBounds_toArray, List.set_cons_zero, List.set_cons_succ])))
                    refine wpTree.one (fun K hK => ?_)
                    refine step_append_mks (by rfl) _ _ rfl d1.heap.size _ (0 + n) ([] ++ l) rfl HO.out _ (1) _ [m] rfl (rfl) (mks_blk HX.out) (by intro a h; first | (cases h; rfl) | (split at h <;> (cases h; rfl))) (by omega) HBz.out ?_
                    intro vy10 y10 hown hgrow
                    have hBelow := Below.grown hHeld hgrow (Below.size hHeld) (fun b hb => by have h1 := (HO.out.lt b hb).1; have := HOs.out; omega)
                    replace HBz := Lib.hid (Nat.le_trans HBz.out hgrow.size)
                    refine hK.out _ _ hBelow (fun hHeld' => ?_)
                    clear hK K hHeld hBelow
                    have hHeld := hHeld'
                    clear hHeld'
                    replace HO := Lib.hid hown
                    clear hown hgrow
                    (try simp only [Act.put, List.setIfInBounds_toArray, List.set_cons_zero, List.set_cons_succ])
                    (repeat (first | (refine wpTree.take (v := undef) (Or.inr ⟨by rfl, rfl⟩) ?_; simp only [Act.put, List.setIfInBounds_toArray, List.set_cons_zero, List.set_cons_succ]) | (refine wpTree.take (v := ?_) (Or.inl ⟨by rfl, ?_⟩) ?_; rotate_left; (focus (intro _ hS; (try dsimp only at hS); go_split_ands; (try subst hS); go_simp; (try (with_reducible rfl)); done)); simp only [Act.put, List.setIfInBounds_toArray, List.set_cons_zero, List.set_cons_succ])))
                    refine wpTree.done ?_
                    go_wp2_with fail
                    go_meet
                    obtain ⟨A2, c2, e2, _, _, hm2⟩ := HO.out.mks
                    rw [Nat.zero_add] at e2
                    exact ⟨A2, c2, e2, hm2, hHeld⟩
                · refine wpTree.one (fun K hK => ?_)
                  refine step_buildMks [m] 1 _ (by rfl) rfl rfl (by decide) (by decide) zmks_1 (by simp [mkParts]; rfl) ?_
                  have hb := (Below.refl d1.heap.size d1).alloc (Nat.le_refl _) (.cells ([m].flatMap Mk.cells).toArray 29)
                  have hnb := Blk.new d1 29 ([m].flatMap Mk.cells).toArray
                  have HXs := Lib.hid (Below.size hHeld)
                  obtain ⟨y11, hnw⟩ : ∃ y11, y11 = d1.alloc (.cells ([m].flatMap Mk.cells).toArray 29) := ⟨_, rfl⟩
                  rw [← hnw] at hb hnb ⊢
                  clear hnw
                  have hBelow := Below.trans hHeld (hb.mono (Below.size hHeld))
                  refine hK.out _ _ hBelow (fun hHeld' => ?_)
                  clear hK K hHeld hBelow
                  have hHeld := hHeld'
                  clear hHeld'
                  clear hb
                  have HX := Lib.hid hnb
                  clear hnb
                  (try simp only [Act.put, List.setIfInBounds_toArray, List.set_cons_zero, List.set_cons_succ])
                  (repeat (first | (refine wpTree.take (v := undef) (Or.inr ⟨by rfl, rfl⟩) ?_; simp only [Act.put, List.setIfInBounds_toArray, List.set_cons_zero, List.set_cons_succ]) | (refine wpTree.take (v := ?_) (Or.inl ⟨by rfl, ?_⟩) ?_; rotate_left; (focus (intro _ hS; (try dsimp only at hS); go_split_ands; (try subst hS); go_simp; (try (with_reducible rfl)); done)); simp only [Act.put, List.setIfInBounds_toArray, List.set_cons_zero, List.set_cons_succ])))
                  refine wpTree.one (fun K hK => ?_)
                  go_simp
                  have hb := (Below.refl y11.heap.size y11).alloc (Nat.le_refl _) (.cells #[] 29)
                  have hnb := World.ownsRow_lit (base := y11.heap.size) (size := 3) (e := 29) y11 #[] 0 (Nat.le_refl _) (by unfold maxLen; omega) rfl
                  have HOs := Lib.hid (Below.size hHeld)
                  obtain ⟨y12, hnw⟩ : ∃ y12, y12 = y11.alloc (.cells #[] 29) := ⟨_, rfl⟩
                  rw [← hnw] at hb hnb ⊢
                  clear hnw
                  have hBelow := Below.trans hHeld (hb.mono (Below.size hHeld))
                  refine hK.out _ _ hBelow (fun hHeld' => ?_)
                  clear hK K hHeld hBelow
                  have hHeld := hHeld'
                  clear hHeld'
                  have HBz := Lib.hid (hb.size)
                  have HXO := Lib.hid (HX.out.lt)
                  replace HX := Lib.hid (HX.out.next hb)
                  clear hb
                  have HO := Lib.hid (show OwnM y12 y11.heap.size (.slice (some ⟨y11.heap.size, 0, none⟩) 0 0) 0 [] from hnb)
                  clear hnb
                  (try simp only [Act.put, List.setIfInBounds_toArray, List.set_cons_zero, List.set_cons_succ])
                  (repeat (first | (refine wpTree.take (v := undef) (Or.inr ⟨by rfl, rfl⟩) ?_; simp only [Act.put, List.setIfInBounds_toArray, List.set_cons_zero, List.set_cons_succ]) | (refine wpTree.take (v := ?_) (Or.inl ⟨by rfl, ?_⟩) ?_; rotate_left; (focus (intro _ hS; (try dsimp only at hS); go_split_ands; (try subst hS); go_simp; (try (with_reducible rfl)); done)); simp only [Act.put, List.setIfInBounds_toArray, List.set_cons_zero, List.set_cons_succ])))
                  refine wpTree.one (fun K hK => ?_)
                  refine step_append_mks (by rfl) _ _ rfl y11.heap.size _ (0) [] rfl HO.out _ (n) _ l rfl (HN.out) (HM.out.next hHeld) (by intro a h; first | (cases h; rfl) | (split at h <;> (cases h; rfl))) (by omega) HBz.out ?_
                  intro vy13 y13 hown hgrow
                  have hBelow := Below.grown hHeld hgrow (Below.size hHeld) (fun b hb => by have h1 := (HO.out.lt b hb).1; have := HOs.out; omega)
                  replace HX := Lib.hid ((hgrow.block _ HX.out.lt (fun e => Nat.lt_irrefl _ (Nat.lt_of_lt_of_le HXO.out (HO.out.lt _ e.symm).1))).trans HX.out)
                  replace HBz := Lib.hid (Nat.le_trans HBz.out hgrow.size)
                  refine hK.out _ _ hBelow (fun hHeld' => ?_)
                  clear hK K hHeld hBelow
                  have hHeld := hHeld'
                  clear hHeld'
                  replace HO := Lib.hid hown
                  clear hown hgrow
                  (try simp only [Act.put, List.setIfInBounds_toArray, List.set_cons_zero, List.set_cons_succ])
                  (repeat (first | (refine wpTree.take (v := undef) (Or.inr ⟨by rfl, rfl⟩) ?_; simp only [Act.put, List.setIfInBounds_toArray, List.set_cons_zero, List.set_cons_succ]) | (refine wpTree.take (v := ?_) (Or.inl ⟨by rfl, ?_⟩) ?_; rotate_left; (focus (intro _ hS; (try dsimp only at hS); go_split_ands; (try subst hS); go_simp; (try (with_reducible rfl)); done)); simp only [Act.put, List.setIfInBounds_toArray, List.set_cons_zero, List.set_cons_succ])))
                  refine wpTree.one (fun K hK => ?_)
                  refine step_append_mks (by rfl) _ _ rfl y11.heap.size _ (0 + n) ([] ++ l) rfl HO.out _ (1) _ [m] rfl (rfl) (mks_blk HX.out) (by intro a h; first | (cases h; rfl) | (split at h <;> (cases h; rfl))) (by omega) HBz.out ?_
                  intro vy14 y14 hown hgrow
                  have hBelow := Below.grown hHeld hgrow (Below.size hHeld) (fun b hb => by have h1 := (HO.out.lt b hb).1; have := HOs.out; omega)
                  replace HBz := Lib.hid (Nat.le_trans HBz.out hgrow.size)
                  refine hK.out _ _ hBelow (fun hHeld' => ?_)
                  clear hK K hHeld hBelow
                  have hHeld := hHeld'
                  clear hHeld'
                  replace HO := Lib.hid hown
                  clear hown hgrow
                  (try simp only [Act.put, List.setIfInBounds_toArray, List.set_cons_zero, List.set_cons_succ])
                  (repeat (first | (refine wpTree.take (v := undef) (Or.inr ⟨by rfl, rfl⟩) ?_; simp only [Act.put, List.setIfInBounds_toArray, List.set_cons_zero, List.set_cons_succ]) | (refine wpTree.take (v := ?_) (Or.inl ⟨by rfl, ?_⟩) ?_; rotate_left; (focus (intro _ hS; (try dsimp only at hS); go_split_ands; (try subst hS); go_simp; (try (with_reducible rfl)); done)); simp only [Act.put, List.setIfInBounds_toArray, List.set_cons_zero, List.set_cons_succ])))
                  refine wpTree.done ?_
                  go_wp2_with fail
                  go_meet
                  obtain ⟨A2, c2, e2, _, _, hm2⟩ := HO.out.mks
                  rw [Nat.zero_add] at e2
                  exact ⟨A2, c2, e2, hm2, hHeld⟩
              case rest =>
                obtain ⟨A3, c3, rfl, h1, h2⟩ := hcut
                have HX3 := Lib.hid h1
                replace HX2 := Lib.hid (HX2.out.next h2)
                replace HBW := Lib.hid (HBW.out.trans (h2.mono HBW.out.size))
                replace HT := Lib.hid (HT.out.next h2)
                replace HM := Lib.hid (HM.out.next h2)
                clear h1 h2 hr
                go_upto_region 16 with fail
                rename World => x2
                have HTK := Lib.hid (show (l.take q).length = q from by rw [List.length_take, HN.out]; omega)
                have HDK := Lib.hid (show (l.drop q).length = n - q from by rw [List.length_drop, HN.out])
                have HPT := Lib.hid (show ∀ m ∈ l.take q, m.p < 18446744073709551616 from fun m hm => HP.out m (List.mem_of_mem_take hm))
                have HPD := Lib.hid (show ∀ m ∈ l.drop q, m.p < 18446744073709551616 from fun m hm => HP.out m (List.mem_of_mem_drop hm))
                have HPP := Lib.hid (show ∀ m ∈ [joinM (l.take q), joinM (l.drop q)], m.p < 18446744073709551616 from by intro m hm; simp at hm; rcases hm with rfl | rfl; exact (joinM_R HPT.out).2; exact (joinM_R HPD.out).2)
                have hmq := fun w' (hb : Below x2.heap.size x2 w') => mks_drop (HM.out.next hb) HLC.out HQL.out
                go_cut [12] from 87 to 96 (fun x wx => ∃ g : Nat, x = .pointer (some ⟨g, 0, none⟩) ∧ Blk wx g 29 (joinM [joinM (l.take q), joinM (l.drop q)]).cells.toArray ∧ Below x2.heap.size x2 wx)
                case first =>
                  refine wp_region_tree (S := (fun W' => Below (x2).heap.size x2 W')) (.take 0 (.take 1 (.take 2 (.take 4 (.take 5 (.take 6 (.two 3 (.two 7 (.two 8 (.two 9 (.one 10 (.one 11 .nil)) 10 (.one 9 (.one 11 .nil))) 10 (.one 8 (.one 9 (.one 11 .nil)))) 10 (.one 7 (.one 8 (.one 9 (.one 11 .nil))))) 10 (.one 3 (.one 7 (.one 8 (.one 9 (.one 11 .nil)))))))))))) 9999 (by kernel_rfl) (by kernel_rfl) (by kernel_rfl) (by kernel_rfl) (by kernel_rfl) (fun _ _ d _ _ h => by cases d <;> exact h) ?_ (fun hHeld => ?_); (focus (exact (Below.refl _ _).drew)); simp only [Tree.map, List.getElem?_toArray, List.getElem?_cons_zero, List.getElem?_cons_succ]
                  obtain ⟨d2, hdw⟩ : ∃ d2, d2 = x2.drew := ⟨_, rfl⟩
                  rw [← hdw] at hHeld ⊢
                  clear hdw
                  (repeat (first | (refine wpTree.take (v := undef) (Or.inr ⟨by rfl, rfl⟩) ?_; simp only [Act.put, List.setIfInBounds_toArray, List.set_cons_zero, List.set_cons_succ]) | (refine wpTree.take (v := ?_) (Or.inl ⟨by rfl, ?_⟩) ?_; rotate_left; (focus (intro _ hS; (try dsimp only at hS); go_split_ands; (try subst hS); go_simp; (try (with_reducible rfl)); done)); simp only [Act.put, List.setIfInBounds_toArray, List.set_cons_zero, List.set_cons_succ])))
                  generalize (if c1 = q then some (⟨b, o, none⟩ : Addr) else some ⟨b, o + q * 3, none⟩) = A5 at hmq ⊢
                  have HMQ := Lib.hid hmq
                  clear hmq
                  refine wpTree.two ?_ ?_
                  · refine wpTree.one (fun K hK => ?_)
                    go_simp
                    go_at_call 12
                    refine (mjoin_any _ _ _ (l.take q) _ HTK.out (by omega) (mks_take (HM.out.next hHeld) q) HPT.out).mono ?_
                    rintro e y15 ⟨rfl, hb⟩
                    have hBelow := Below.trans hHeld (hb.mono (Below.size hHeld))
                    refine hK.out _ _ hBelow (fun hHeld' => ?_)
                    clear hK K hHeld hBelow
                    have hHeld := hHeld'
                    clear hHeld'
                    clear hb
                    (try simp only [Act.put, List.setIfInBounds_toArray, List.set_cons_zero, List.set_cons_succ])
                    (repeat (first | (refine wpTree.take (v := undef) (Or.inr ⟨by rfl, rfl⟩) ?_; simp only [Act.put, List.setIfInBounds_toArray, List.set_cons_zero, List.set_cons_succ]) | (refine wpTree.take (v := ?_) (Or.inl ⟨by rfl, ?_⟩) ?_; rotate_left; (focus (intro _ hS; (try dsimp only at hS); go_split_ands; (try subst hS); go_simp; (try (with_reducible rfl)); done)); simp only [Act.put, List.setIfInBounds_toArray, List.set_cons_zero, List.set_cons_succ])))
                    refine wpTree.two ?_ ?_
                    · refine wpTree.one (fun K hK => ?_)
                      go_simp
                      go_at_call 12
                      refine (mjoin_any _ _ _ (l.drop q) _ HDK.out (by omega) (HMQ.out _ hHeld) HPD.out).mono ?_
                      rintro e y16 ⟨rfl, hb⟩
                      have hBelow := Below.trans hHeld (hb.mono (Below.size hHeld))
                      refine hK.out _ _ hBelow (fun hHeld' => ?_)
                      clear hK K hHeld hBelow
                      have hHeld := hHeld'
                      clear hHeld'
                      clear hb
                      (try simp only [Act.put, List.setIfInBounds_toArray, List.set_cons_zero, List.set_cons_succ])
                      (repeat (first | (refine wpTree.take (v := undef) (Or.inr ⟨by rfl, rfl⟩) ?_; simp only [Act.put, List.setIfInBounds_toArray, List.set_cons_zero, List.set_cons_succ]) | (refine wpTree.take (v := ?_) (Or.inl ⟨by rfl, ?_⟩) ?_; rotate_left; (focus (intro _ hS; (try dsimp only at hS); go_split_ands; (try subst hS); go_simp; (try (with_reducible rfl)); done)); simp only [Act.put, List.setIfInBounds_toArray, List.set_cons_zero, List.set_cons_succ])))
                      refine wpTree.two ?_ ?_
                      · refine wpTree.one (fun K hK => ?_)
                        refine step_buildMks [joinM (l.take q), joinM (l.drop q)] 2 _ (by rfl) rfl rfl (by decide) (by decide) zmks_2 (by simp [mkParts]; exact ⟨rfl, rfl⟩) ?_
                        have hb := (Below.refl y16.heap.size y16).alloc (Nat.le_refl _) (.cells ([joinM (l.take q), joinM (l.drop q)].flatMap Mk.cells).toArray 29)
                        have hnb := mks_new y16 [joinM (l.take q), joinM (l.drop q)]
                        have HGs := Lib.hid (Below.size hHeld)
                        obtain ⟨y17, hnw⟩ : ∃ y17, y17 = y16.alloc (.cells ([joinM (l.take q), joinM (l.drop q)].flatMap Mk.cells).toArray 29) := ⟨_, rfl⟩
                        rw [← hnw] at hb hnb ⊢
                        clear hnw
                        have hBelow := Below.trans hHeld (hb.mono (Below.size hHeld))
                        refine hK.out _ _ hBelow (fun hHeld' => ?_)
                        clear hK K hHeld hBelow
                        have hHeld := hHeld'
                        clear hHeld'
                        clear hb
                        have HG := Lib.hid hnb
                        clear hnb
                        (try simp only [Act.put, List.setIfInBounds_toArray, List.set_cons_zero, List.set_cons_succ])
                        (repeat (first | (refine wpTree.take (v := undef) (Or.inr ⟨by rfl, rfl⟩) ?_; simp only [Act.put, List.setIfInBounds_toArray, List.set_cons_zero, List.set_cons_succ]) | (refine wpTree.take (v := ?_) (Or.inl ⟨by rfl, ?_⟩) ?_; rotate_left; (focus (intro _ hS; (try dsimp only at hS); go_split_ands; (try subst hS); go_simp; (try (with_reducible rfl)); done)); simp only [Act.put, List.setIfInBounds_toArray, List.set_cons_zero, List.set_cons_succ])))
                        refine wpTree.two ?_ ?_
                        · refine wpTree.one (fun K hK => ?_)
                          go_simp
                          go_at_call 12
                          refine (mjoin_any _ 2 2 [joinM (l.take q), joinM (l.drop q)] _ rfl (by decide) HG.out HPP.out).mono ?_
                          rintro e y18 ⟨rfl, hb⟩
                          have hBelow := Below.trans hHeld (hb.mono (Below.size hHeld))
                          refine hK.out _ _ hBelow (fun hHeld' => ?_)
                          clear hK K hHeld hBelow
                          have hHeld := hHeld'
                          clear hHeld'
                          replace HG := Lib.hid (HG.out.next hb)
                          clear hb
                          (try simp only [Act.put, List.setIfInBounds_toArray, List.set_cons_zero, List.set_cons_succ])
                          (repeat (first | (refine wpTree.take (v := undef) (Or.inr ⟨by rfl, rfl⟩) ?_; simp only [Act.put, List.setIfInBounds_toArray, List.set_cons_zero, List.set_cons_succ]) | (refine wpTree.take (v := ?_) (Or.inl ⟨by rfl, ?_⟩) ?_; rotate_left; (focus (intro _ hS; (try dsimp only at hS); go_split_ands; (try subst hS); go_simp; (try (with_reducible rfl)); done)); simp only [Act.put, List.setIfInBounds_toArray, List.set_cons_zero, List.set_cons_succ])))
                          refine wpTree.one (fun K hK => ?_)
                          go_simp
                          have hb := (Below.refl y18.heap.size y18).alloc (Nat.le_refl _) (.cells #[.int .i64 0, .bool false, .float .f64 0] 29)
                          have hnb := Blk.new y18 29 #[.int .i64 0, .bool false, .float .f64 0]
                          have HEs := Lib.hid (Below.size hHeld)
                          obtain ⟨y19, hnw⟩ : ∃ y19, y19 = y18.alloc (.cells #[.int .i64 0, .bool false, .float .f64 0] 29) := ⟨_, rfl⟩
                          rw [← hnw] at hb hnb ⊢
                          clear hnw
                          have hBelow := Below.trans hHeld (hb.mono (Below.size hHeld))
                          refine hK.out _ _ hBelow (fun hHeld' => ?_)
                          clear hK K hHeld hBelow
                          have hHeld := hHeld'
                          clear hHeld'
                          replace HG := Lib.hid (HG.out.next hb)
                          clear hb
                          have HE := Lib.hid hnb
                          clear hnb
                          (try simp only [Act.put, List.setIfInBounds_toArray, List.set_cons_zero, List.set_cons_succ])
                          (repeat (first | (refine wpTree.take (v := undef) (Or.inr ⟨by rfl, rfl⟩) ?_; simp only [Act.put, List.setIfInBounds_toArray, List.set_cons_zero, List.set_cons_succ]) | (refine wpTree.take (v := ?_) (Or.inl ⟨by rfl, ?_⟩) ?_; rotate_left; (focus (intro _ hS; (try dsimp only at hS); go_split_ands; (try subst hS); go_simp; (try (with_reducible rfl)); done)); simp only [Act.put, List.setIfInBounds_toArray, List.set_cons_zero, List.set_cons_succ])))
                          refine wpTree.one (fun K hK => ?_)
                          refine step_store_blk (by rfl) 29 _ _ rfl y18.heap.size 29 #[.int .i64 0, .bool false, .float .f64 0] (joinM [joinM (l.take q), joinM (l.drop q)]).cells.toArray rfl rfl HE.out (mkinfoA _) (mk_siz _) (mk_one _) ?_
                          have hBelow := below_setRow hHeld HEs.out (joinM [joinM (l.take q), joinM (l.drop q)]).cells.toArray
                          have HF := Lib.hid (HE.out.setRow (joinM [joinM (l.take q), joinM (l.drop q)]).cells.toArray)
                          have HH := Lib.hid hBelow
                          refine hK.out _ _ hBelow (fun _ => ?_)
                          clear hK K hHeld hBelow
                          refine wpTree.done ?_
                          go_wp2_with fail
                          go_meet
                          exact ⟨_, rfl, HF.out, HH.out⟩
                        · refine wpTree.one (fun K hK => ?_)
                          go_simp
                          have hb := (Below.refl y17.heap.size y17).alloc (Nat.le_refl _) (.cells #[.int .i64 0, .bool false, .float .f64 0] 29)
                          have hnb := Blk.new y17 29 #[.int .i64 0, .bool false, .float .f64 0]
                          have HEs := Lib.hid (Below.size hHeld)
                          obtain ⟨y20, hnw⟩ : ∃ y20, y20 = y17.alloc (.cells #[.int .i64 0, .bool false, .float .f64 0] 29) := ⟨_, rfl⟩
                          rw [← hnw] at hb hnb ⊢
                          clear hnw
                          have hBelow := Below.trans hHeld (hb.mono (Below.size hHeld))
                          refine hK.out _ _ hBelow (fun hHeld' => ?_)
                          clear hK K hHeld hBelow
                          have hHeld := hHeld'
                          clear hHeld'
                          replace HG := Lib.hid (HG.out.next hb)
                          clear hb
                          have HE := Lib.hid hnb
                          clear hnb
                          (try simp only [Act.put, List.setIfInBounds_toArray, List.set_cons_zero, List.set_cons_succ])
                          (repeat (first | (refine wpTree.take (v := undef) (Or.inr ⟨by rfl, rfl⟩) ?_; simp only [Act.put, List.setIfInBounds_toArray, List.set_cons_zero, List.set_cons_succ]) | (refine wpTree.take (v := ?_) (Or.inl ⟨by rfl, ?_⟩) ?_; rotate_left; (focus (intro _ hS; (try dsimp only at hS); go_split_ands; (try subst hS); go_simp; (try (with_reducible rfl)); done)); simp only [Act.put, List.setIfInBounds_toArray, List.set_cons_zero, List.set_cons_succ])))
                          refine wpTree.one (fun K hK => ?_)
                          go_simp
                          go_at_call 12
                          refine (mjoin_any _ 2 2 [joinM (l.take q), joinM (l.drop q)] _ rfl (by decide) HG.out HPP.out).mono ?_
                          rintro e y21 ⟨rfl, hb⟩
                          have hBelow := Below.trans hHeld (hb.mono (Below.size hHeld))
                          refine hK.out _ _ hBelow (fun hHeld' => ?_)
                          clear hK K hHeld hBelow
                          have hHeld := hHeld'
                          clear hHeld'
                          replace HG := Lib.hid (HG.out.next hb)
                          replace HE := Lib.hid (HE.out.next hb)
                          clear hb
                          (try simp only [Act.put, List.setIfInBounds_toArray, List.set_cons_zero, List.set_cons_succ])
                          (repeat (first | (refine wpTree.take (v := undef) (Or.inr ⟨by rfl, rfl⟩) ?_; simp only [Act.put, List.setIfInBounds_toArray, List.set_cons_zero, List.set_cons_succ]) | (refine wpTree.take (v := ?_) (Or.inl ⟨by rfl, ?_⟩) ?_; rotate_left; (focus (intro _ hS; (try dsimp only at hS); go_split_ands; (try subst hS); go_simp; (try (with_reducible rfl)); done)); simp only [Act.put, List.setIfInBounds_toArray, List.set_cons_zero, List.set_cons_succ])))
                          refine wpTree.one (fun K hK => ?_)
                          refine step_store_blk (by rfl) 29 _ _ rfl y17.heap.size 29 #[.int .i64 0, .bool false, .float .f64 0] (joinM [joinM (l.take q), joinM (l.drop q)]).cells.toArray rfl rfl HE.out (mkinfoA _) (mk_siz _) (mk_one _) ?_
                          have hBelow := below_setRow hHeld HEs.out (joinM [joinM (l.take q), joinM (l.drop q)]).cells.toArray
                          have HF := Lib.hid (HE.out.setRow (joinM [joinM (l.take q), joinM (l.drop q)]).cells.toArray)
                          have HH := Lib.hid hBelow
                          refine hK.out _ _ hBelow (fun _ => ?_)
                          clear hK K hHeld hBelow
                          refine wpTree.done ?_
                          go_wp2_with fail
                          go_meet
                          exact ⟨_, rfl, HF.out, HH.out⟩
                      · refine wpTree.one (fun K hK => ?_)
                        go_simp
                        have hb := (Below.refl y16.heap.size y16).alloc (Nat.le_refl _) (.cells #[.int .i64 0, .bool false, .float .f64 0] 29)
                        have hnb := Blk.new y16 29 #[.int .i64 0, .bool false, .float .f64 0]
                        have HEs := Lib.hid (Below.size hHeld)
                        obtain ⟨y22, hnw⟩ : ∃ y22, y22 = y16.alloc (.cells #[.int .i64 0, .bool false, .float .f64 0] 29) := ⟨_, rfl⟩
                        rw [← hnw] at hb hnb ⊢
                        clear hnw
                        have hBelow := Below.trans hHeld (hb.mono (Below.size hHeld))
                        refine hK.out _ _ hBelow (fun hHeld' => ?_)
                        clear hK K hHeld hBelow
                        have hHeld := hHeld'
                        clear hHeld'
                        clear hb
                        have HE := Lib.hid hnb
                        clear hnb
                        (try simp only [Act.put, List.setIfInBounds_toArray, List.set_cons_zero, List.set_cons_succ])
                        (repeat (first | (refine wpTree.take (v := undef) (Or.inr ⟨by rfl, rfl⟩) ?_; simp only [Act.put, List.setIfInBounds_toArray, List.set_cons_zero, List.set_cons_succ]) | (refine wpTree.take (v := ?_) (Or.inl ⟨by rfl, ?_⟩) ?_; rotate_left; (focus (intro _ hS; (try dsimp only at hS); go_split_ands; (try subst hS); go_simp; (try (with_reducible rfl)); done)); simp only [Act.put, List.setIfInBounds_toArray, List.set_cons_zero, List.set_cons_succ])))
                        refine wpTree.one (fun K hK => ?_)
                        refine step_buildMks [joinM (l.take q), joinM (l.drop q)] 2 _ (by rfl) rfl rfl (by decide) (by decide) zmks_2 (by simp [mkParts]; exact ⟨rfl, rfl⟩) ?_
                        have hb := (Below.refl y22.heap.size y22).alloc (Nat.le_refl _) (.cells ([joinM (l.take q), joinM (l.drop q)].flatMap Mk.cells).toArray 29)
                        have hnb := mks_new y22 [joinM (l.take q), joinM (l.drop q)]
                        have HGs := Lib.hid (Below.size hHeld)
                        obtain ⟨y23, hnw⟩ : ∃ y23, y23 = y22.alloc (.cells ([joinM (l.take q), joinM (l.drop q)].flatMap Mk.cells).toArray 29) := ⟨_, rfl⟩
                        rw [← hnw] at hb hnb ⊢
                        clear hnw
                        have hBelow := Below.trans hHeld (hb.mono (Below.size hHeld))
                        refine hK.out _ _ hBelow (fun hHeld' => ?_)
                        clear hK K hHeld hBelow
                        have hHeld := hHeld'
                        clear hHeld'
                        replace HE := Lib.hid (HE.out.next hb)
                        clear hb
                        have HG := Lib.hid hnb
                        clear hnb
                        (try simp only [Act.put, List.setIfInBounds_toArray, List.set_cons_zero, List.set_cons_succ])
                        (repeat (first | (refine wpTree.take (v := undef) (Or.inr ⟨by rfl, rfl⟩) ?_; simp only [Act.put, List.setIfInBounds_toArray, List.set_cons_zero, List.set_cons_succ]) | (refine wpTree.take (v := ?_) (Or.inl ⟨by rfl, ?_⟩) ?_; rotate_left; (focus (intro _ hS; (try dsimp only at hS); go_split_ands; (try subst hS); go_simp; (try (with_reducible rfl)); done)); simp only [Act.put, List.setIfInBounds_toArray, List.set_cons_zero, List.set_cons_succ])))
                        refine wpTree.one (fun K hK => ?_)
                        go_simp
                        go_at_call 12
                        refine (mjoin_any _ 2 2 [joinM (l.take q), joinM (l.drop q)] _ rfl (by decide) HG.out HPP.out).mono ?_
                        rintro e y24 ⟨rfl, hb⟩
                        have hBelow := Below.trans hHeld (hb.mono (Below.size hHeld))
                        refine hK.out _ _ hBelow (fun hHeld' => ?_)
                        clear hK K hHeld hBelow
                        have hHeld := hHeld'
                        clear hHeld'
                        replace HE := Lib.hid (HE.out.next hb)
                        replace HG := Lib.hid (HG.out.next hb)
                        clear hb
                        (try simp only [Act.put, List.setIfInBounds_toArray, List.set_cons_zero, List.set_cons_succ])
                        (repeat (first | (refine wpTree.take (v := undef) (Or.inr ⟨by rfl, rfl⟩) ?_; simp only [Act.put, List.setIfInBounds_toArray, List.set_cons_zero, List.set_cons_succ]) | (refine wpTree.take (v := ?_) (Or.inl ⟨by rfl, ?_⟩) ?_; rotate_left; (focus (intro _ hS; (try dsimp only at hS); go_split_ands; (try subst hS); go_simp; (try (with_reducible rfl)); done)); simp only [Act.put, List.setIfInBounds_toArray, List.set_cons_zero, List.set_cons_succ])))
                        refine wpTree.one (fun K hK => ?_)
                        refine step_store_blk (by rfl) 29 _ _ rfl y16.heap.size 29 #[.int .i64 0, .bool false, .float .f64 0] (joinM [joinM (l.take q), joinM (l.drop q)]).cells.toArray rfl rfl HE.out (mkinfoA _) (mk_siz _) (mk_one _) ?_
                        have hBelow := below_setRow hHeld HEs.out (joinM [joinM (l.take q), joinM (l.drop q)]).cells.toArray
                        have HF := Lib.hid (HE.out.setRow (joinM [joinM (l.take q), joinM (l.drop q)]).cells.toArray)
                        have HH := Lib.hid hBelow
                        refine hK.out _ _ hBelow (fun _ => ?_)
                        clear hK K hHeld hBelow
                        refine wpTree.done ?_
                        go_wp2_with fail
                        go_meet
                        exact ⟨_, rfl, HF.out, HH.out⟩
                    · refine wpTree.one (fun K hK => ?_)
                      go_simp
                      have hb := (Below.refl y15.heap.size y15).alloc (Nat.le_refl _) (.cells #[.int .i64 0, .bool false, .float .f64 0] 29)
                      have hnb := Blk.new y15 29 #[.int .i64 0, .bool false, .float .f64 0]
                      have HEs := Lib.hid (Below.size hHeld)
                      obtain ⟨y25, hnw⟩ : ∃ y25, y25 = y15.alloc (.cells #[.int .i64 0, .bool false, .float .f64 0] 29) := ⟨_, rfl⟩
                      rw [← hnw] at hb hnb ⊢
                      clear hnw
                      have hBelow := Below.trans hHeld (hb.mono (Below.size hHeld))
                      refine hK.out _ _ hBelow (fun hHeld' => ?_)
                      clear hK K hHeld hBelow
                      have hHeld := hHeld'
                      clear hHeld'
                      clear hb
                      have HE := Lib.hid hnb
                      clear hnb
                      (try simp only [Act.put, List.setIfInBounds_toArray, List.set_cons_zero, List.set_cons_succ])
                      (repeat (first | (refine wpTree.take (v := undef) (Or.inr ⟨by rfl, rfl⟩) ?_; simp only [Act.put, List.setIfInBounds_toArray, List.set_cons_zero, List.set_cons_succ]) | (refine wpTree.take (v := ?_) (Or.inl ⟨by rfl, ?_⟩) ?_; rotate_left; (focus (intro _ hS; (try dsimp only at hS); go_split_ands; (try subst hS); go_simp; (try (with_reducible rfl)); done)); simp only [Act.put, List.setIfInBounds_toArray, List.set_cons_zero, List.set_cons_succ])))
                      refine wpTree.one (fun K hK => ?_)
                      go_simp
                      go_at_call 12
                      refine (mjoin_any _ _ _ (l.drop q) _ HDK.out (by omega) (HMQ.out _ hHeld) HPD.out).mono ?_
                      rintro e y26 ⟨rfl, hb⟩
                      have hBelow := Below.trans hHeld (hb.mono (Below.size hHeld))
                      refine hK.out _ _ hBelow (fun hHeld' => ?_)
                      clear hK K hHeld hBelow
                      have hHeld := hHeld'
                      clear hHeld'
                      replace HE := Lib.hid (HE.out.next hb)
                      clear hb
                      (try simp only [Act.put, List.setIfInBounds_toArray, List.set_cons_zero, List.set_cons_succ])
                      (repeat (first | (refine wpTree.take (v := undef) (Or.inr ⟨by rfl, rfl⟩) ?_; simp only [Act.put, List.setIfInBounds_toArray, List.set_cons_zero, List.set_cons_succ]) | (refine wpTree.take (v := ?_) (Or.inl ⟨by rfl, ?_⟩) ?_; rotate_left; (focus (intro _ hS; (try dsimp only at hS); go_split_ands; (try subst hS); go_simp; (try (with_reducible rfl)); done)); simp only [Act.put, List.setIfInBounds_toArray, List.set_cons_zero, List.set_cons_succ])))
                      refine wpTree.one (fun K hK => ?_)
                      refine step_buildMks [joinM (l.take q), joinM (l.drop q)] 2 _ (by rfl) rfl rfl (by decide) (by decide) zmks_2 (by simp [mkParts]; exact ⟨rfl, rfl⟩) ?_
                      have hb := (Below.refl y26.heap.size y26).alloc (Nat.le_refl _) (.cells ([joinM (l.take q), joinM (l.drop q)].flatMap Mk.cells).toArray 29)
                      have hnb := mks_new y26 [joinM (l.take q), joinM (l.drop q)]
                      have HGs := Lib.hid (Below.size hHeld)
                      obtain ⟨y27, hnw⟩ : ∃ y27, y27 = y26.alloc (.cells ([joinM (l.take q), joinM (l.drop q)].flatMap Mk.cells).toArray 29) := ⟨_, rfl⟩
                      rw [← hnw] at hb hnb ⊢
                      clear hnw
                      have hBelow := Below.trans hHeld (hb.mono (Below.size hHeld))
                      refine hK.out _ _ hBelow (fun hHeld' => ?_)
                      clear hK K hHeld hBelow
                      have hHeld := hHeld'
                      clear hHeld'
                      replace HE := Lib.hid (HE.out.next hb)
                      clear hb
                      have HG := Lib.hid hnb
                      clear hnb
                      (try simp only [Act.put, List.setIfInBounds_toArray, List.set_cons_zero, List.set_cons_succ])
                      (repeat (first | (refine wpTree.take (v := undef) (Or.inr ⟨by rfl, rfl⟩) ?_; simp only [Act.put, List.setIfInBounds_toArray, List.set_cons_zero, List.set_cons_succ]) | (refine wpTree.take (v := ?_) (Or.inl ⟨by rfl, ?_⟩) ?_; rotate_left; (focus (intro _ hS; (try dsimp only at hS); go_split_ands; (try subst hS); go_simp; (try (with_reducible rfl)); done)); simp only [Act.put, List.setIfInBounds_toArray, List.set_cons_zero, List.set_cons_succ])))
                      refine wpTree.one (fun K hK => ?_)
                      go_simp
                      go_at_call 12
                      refine (mjoin_any _ 2 2 [joinM (l.take q), joinM (l.drop q)] _ rfl (by decide) HG.out HPP.out).mono ?_
                      rintro e y28 ⟨rfl, hb⟩
                      have hBelow := Below.trans hHeld (hb.mono (Below.size hHeld))
                      refine hK.out _ _ hBelow (fun hHeld' => ?_)
                      clear hK K hHeld hBelow
                      have hHeld := hHeld'
                      clear hHeld'
                      replace HE := Lib.hid (HE.out.next hb)
                      replace HG := Lib.hid (HG.out.next hb)
                      clear hb
                      (try simp only [Act.put, List.setIfInBounds_toArray, List.set_cons_zero, List.set_cons_succ])
                      (repeat (first | (refine wpTree.take (v := undef) (Or.inr ⟨by rfl, rfl⟩) ?_; simp only [Act.put, List.setIfInBounds_toArray, List.set_cons_zero, List.set_cons_succ]) | (refine wpTree.take (v := ?_) (Or.inl ⟨by rfl, ?_⟩) ?_; rotate_left; (focus (intro _ hS; (try dsimp only at hS); go_split_ands; (try subst hS); go_simp; (try (with_reducible rfl)); done)); simp only [Act.put, List.setIfInBounds_toArray, List.set_cons_zero, List.set_cons_succ])))
                      refine wpTree.one (fun K hK => ?_)
                      refine step_store_blk (by rfl) 29 _ _ rfl y15.heap.size 29 #[.int .i64 0, .bool false, .float .f64 0] (joinM [joinM (l.take q), joinM (l.drop q)]).cells.toArray rfl rfl HE.out (mkinfoA _) (mk_siz _) (mk_one _) ?_
                      have hBelow := below_setRow hHeld HEs.out (joinM [joinM (l.take q), joinM (l.drop q)]).cells.toArray
                      have HF := Lib.hid (HE.out.setRow (joinM [joinM (l.take q), joinM (l.drop q)]).cells.toArray)
                      have HH := Lib.hid hBelow
                      refine hK.out _ _ hBelow (fun _ => ?_)
                      clear hK K hHeld hBelow
                      refine wpTree.done ?_
                      go_wp2_with fail
                      go_meet
                      exact ⟨_, rfl, HF.out, HH.out⟩
                  · refine wpTree.one (fun K hK => ?_)
                    go_simp
                    have hb := (Below.refl d2.heap.size d2).alloc (Nat.le_refl _) (.cells #[.int .i64 0, .bool false, .float .f64 0] 29)
                    have hnb := Blk.new d2 29 #[.int .i64 0, .bool false, .float .f64 0]
                    have HEs := Lib.hid (Below.size hHeld)
                    obtain ⟨y29, hnw⟩ : ∃ y29, y29 = d2.alloc (.cells #[.int .i64 0, .bool false, .float .f64 0] 29) := ⟨_, rfl⟩
                    rw [← hnw] at hb hnb ⊢
                    clear hnw
                    have hBelow := Below.trans hHeld (hb.mono (Below.size hHeld))
                    refine hK.out _ _ hBelow (fun hHeld' => ?_)
                    clear hK K hHeld hBelow
                    have hHeld := hHeld'
                    clear hHeld'
                    clear hb
                    have HE := Lib.hid hnb
                    clear hnb
                    (try simp only [Act.put, List.setIfInBounds_toArray, List.set_cons_zero, List.set_cons_succ])
                    (repeat (first | (refine wpTree.take (v := undef) (Or.inr ⟨by rfl, rfl⟩) ?_; simp only [Act.put, List.setIfInBounds_toArray, List.set_cons_zero, List.set_cons_succ]) | (refine wpTree.take (v := ?_) (Or.inl ⟨by rfl, ?_⟩) ?_; rotate_left; (focus (intro _ hS; (try dsimp only at hS); go_split_ands; (try subst hS); go_simp; (try (with_reducible rfl)); done)); simp only [Act.put, List.setIfInBounds_toArray, List.set_cons_zero, List.set_cons_succ])))
                    refine wpTree.one (fun K hK => ?_)
                    go_simp
                    go_at_call 12
                    refine (mjoin_any _ _ _ (l.take q) _ HTK.out (by omega) (mks_take (HM.out.next hHeld) q) HPT.out).mono ?_
                    rintro e y30 ⟨rfl, hb⟩
                    have hBelow := Below.trans hHeld (hb.mono (Below.size hHeld))
                    refine hK.out _ _ hBelow (fun hHeld' => ?_)
                    clear hK K hHeld hBelow
                    have hHeld := hHeld'
                    clear hHeld'
                    replace HE := Lib.hid (HE.out.next hb)
                    clear hb
                    (try simp only [Act.put, List.setIfInBounds_toArray, List.set_cons_zero, List.set_cons_succ])
                    (repeat (first | (refine wpTree.take (v := undef) (Or.inr ⟨by rfl, rfl⟩) ?_; simp only [Act.put, List.setIfInBounds_toArray, List.set_cons_zero, List.set_cons_succ]) | (refine wpTree.take (v := ?_) (Or.inl ⟨by rfl, ?_⟩) ?_; rotate_left; (focus (intro _ hS; (try dsimp only at hS); go_split_ands; (try subst hS); go_simp; (try (with_reducible rfl)); done)); simp only [Act.put, List.setIfInBounds_toArray, List.set_cons_zero, List.set_cons_succ])))
                    refine wpTree.one (fun K hK => ?_)
                    go_simp
                    go_at_call 12
                    refine (mjoin_any _ _ _ (l.drop q) _ HDK.out (by omega) (HMQ.out _ hHeld) HPD.out).mono ?_
                    rintro e y31 ⟨rfl, hb⟩
                    have hBelow := Below.trans hHeld (hb.mono (Below.size hHeld))
                    refine hK.out _ _ hBelow (fun hHeld' => ?_)
                    clear hK K hHeld hBelow
                    have hHeld := hHeld'
                    clear hHeld'
                    replace HE := Lib.hid (HE.out.next hb)
                    clear hb
                    (try simp only [Act.put, List.setIfInBounds_toArray, List.set_cons_zero, List.set_cons_succ])
                    (repeat (first | (refine wpTree.take (v := undef) (Or.inr ⟨by rfl, rfl⟩) ?_; simp only [Act.put, List.setIfInBounds_toArray, List.set_cons_zero, List.set_cons_succ]) | (refine wpTree.take (v := ?_) (Or.inl ⟨by rfl, ?_⟩) ?_; rotate_left; (focus (intro _ hS; (try dsimp only at hS); go_split_ands; (try subst hS); go_simp; (try (with_reducible rfl)); done)); simp only [Act.put, List.setIfInBounds_toArray, List.set_cons_zero, List.set_cons_succ])))
                    refine wpTree.one (fun K hK => ?_)
                    refine step_buildMks [joinM (l.take q), joinM (l.drop q)] 2 _ (by rfl) rfl rfl (by decide) (by decide) zmks_2 (by simp [mkParts]; exact ⟨rfl, rfl⟩) ?_
                    have hb := (Below.refl y31.heap.size y31).alloc (Nat.le_refl _) (.cells ([joinM (l.take q), joinM (l.drop q)].flatMap Mk.cells).toArray 29)
                    have hnb := mks_new y31 [joinM (l.take q), joinM (l.drop q)]
                    have HGs := Lib.hid (Below.size hHeld)
                    obtain ⟨y32, hnw⟩ : ∃ y32, y32 = y31.alloc (.cells ([joinM (l.take q), joinM (l.drop q)].flatMap Mk.cells).toArray 29) := ⟨_, rfl⟩
                    rw [← hnw] at hb hnb ⊢
                    clear hnw
                    have hBelow := Below.trans hHeld (hb.mono (Below.size hHeld))
                    refine hK.out _ _ hBelow (fun hHeld' => ?_)
                    clear hK K hHeld hBelow
                    have hHeld := hHeld'
                    clear hHeld'
                    replace HE := Lib.hid (HE.out.next hb)
                    clear hb
                    have HG := Lib.hid hnb
                    clear hnb
                    (try simp only [Act.put, List.setIfInBounds_toArray, List.set_cons_zero, List.set_cons_succ])
                    (repeat (first | (refine wpTree.take (v := undef) (Or.inr ⟨by rfl, rfl⟩) ?_; simp only [Act.put, List.setIfInBounds_toArray, List.set_cons_zero, List.set_cons_succ]) | (refine wpTree.take (v := ?_) (Or.inl ⟨by rfl, ?_⟩) ?_; rotate_left; (focus (intro _ hS; (try dsimp only at hS); go_split_ands; (try subst hS); go_simp; (try (with_reducible rfl)); done)); simp only [Act.put, List.setIfInBounds_toArray, List.set_cons_zero, List.set_cons_succ])))
                    refine wpTree.one (fun K hK => ?_)
                    go_simp
                    go_at_call 12
                    refine (mjoin_any _ 2 2 [joinM (l.take q), joinM (l.drop q)] _ rfl (by decide) HG.out HPP.out).mono ?_
                    rintro e y33 ⟨rfl, hb⟩
                    have hBelow := Below.trans hHeld (hb.mono (Below.size hHeld))
                    refine hK.out _ _ hBelow (fun hHeld' => ?_)
                    clear hK K hHeld hBelow
                    have hHeld := hHeld'
                    clear hHeld'
                    replace HE := Lib.hid (HE.out.next hb)
                    replace HG := Lib.hid (HG.out.next hb)
                    clear hb
                    (try simp only [Act.put, List.setIfInBounds_toArray, List.set_cons_zero, List.set_cons_succ])
                    (repeat (first | (refine wpTree.take (v := undef) (Or.inr ⟨by rfl, rfl⟩) ?_; simp only [Act.put, List.setIfInBounds_toArray, List.set_cons_zero, List.set_cons_succ]) | (refine wpTree.take (v := ?_) (Or.inl ⟨by rfl, ?_⟩) ?_; rotate_left; (focus (intro _ hS; (try dsimp only at hS); go_split_ands; (try subst hS); go_simp; (try (with_reducible rfl)); done)); simp only [Act.put, List.setIfInBounds_toArray, List.set_cons_zero, List.set_cons_succ])))
                    refine wpTree.one (fun K hK => ?_)
                    refine step_store_blk (by rfl) 29 _ _ rfl d2.heap.size 29 #[.int .i64 0, .bool false, .float .f64 0] (joinM [joinM (l.take q), joinM (l.drop q)]).cells.toArray rfl rfl HE.out (mkinfoA _) (mk_siz _) (mk_one _) ?_
                    have hBelow := below_setRow hHeld HEs.out (joinM [joinM (l.take q), joinM (l.drop q)]).cells.toArray
                    have HF := Lib.hid (HE.out.setRow (joinM [joinM (l.take q), joinM (l.drop q)]).cells.toArray)
                    have HH := Lib.hid hBelow
                    refine hK.out _ _ hBelow (fun _ => ?_)
                    clear hK K hHeld hBelow
                    refine wpTree.done ?_
                    go_wp2_with fail
                    go_meet
                    exact ⟨_, rfl, HF.out, HH.out⟩
                case rest =>
                  obtain ⟨g, rfl, h1, h2⟩ := hcut
                  rename World => x3
                  have hrP := h1.range
                  rw [joinM_parts l q HP.out, ← HJ.out] at hrP
                  have hrJ := (HT.out.next h2).range
                  replace HX2 := Lib.hid (HX2.out.next h2)
                  replace HX3 := Lib.hid (HX3.out.next h2)
                  replace HBW := Lib.hid (HBW.out.trans (h2.mono HBW.out.size))
                  have HJ2 := Lib.hid (show ∀ w', Below x3.heap.size x3 w' → Calls Try.prog 12 #[.slice A2 n c2] w' fun e W' => e = .returned (.agg J.cells.toArray) ∧ Below w'.heap.size w' W' from fun w' hb => by
                    have := mjoin_any A2 n c2 (l.drop t ++ l.take t) w' (by rw [List.length_append, List.length_drop, List.length_take, HN.out]; omega) hlen (HX2.out.next hb) (fun m hm => by rcases List.mem_append.1 hm with h | h; exact HP.out m (List.mem_of_mem_drop h); exact HP.out m (List.mem_of_mem_take h))
                    rwa [joinM_swap l t HP.out, ← HJ.out] at this)
                  have HJ3 := Lib.hid (show ∀ w', Below x3.heap.size x3 w' → Calls Try.prog 12 #[.slice A3 (n + 1) c3] w' fun e W' => e = .returned (.agg J.cells.toArray) ∧ Below w'.heap.size w' W' from fun w' hb => by
                    have := mjoin_any A3 (n + 1) c3 (l ++ [m]) w' (by rw [List.length_append, HN.out]; rfl) (by omega) (HX3.out.next hb) (fun x hx => by rcases List.mem_append.1 hx with h | h; exact HP.out x h; simp at h; rw [h]; exact HMP.out)
                    rwa [HMT.out, ← HJ.out] at this)
                  have HRJ := Lib.hid (show ∀ w, Calls Try.prog 14 #[.agg J.cells.toArray] w fun e W' => e = .returned (.bool true) ∧ Below w.heap.size w W' from fun w => by have := mright_any J w; rwa [show rightM J = true from by rw [HJ.out]; exact (joinM_R HP.out).1] at this)
                  have HSJ := Lib.hid (show ∀ w, Calls Try.prog 15 #[.agg J.cells.toArray, .agg J.cells.toArray] w fun e W' => e = .returned (.bool true) ∧ Below w.heap.size w W' from fun w => by have := msame_any J w J; rwa [sameM_self] at this)
                  clear h1 h2 hmq HX2 HX3 HM HT
                  go_upto_region 17 with fail
                  refine wp_region_tree (S := (fun W' => Below (x3).heap.size x3 W')) (.one 0 (.take 1 (.take 2 (.one 3 (.take 4 (.take 5 (.take 6 (.take 8 (.one 7 (.one 9 (.take 10 (.take 11 (.take 12 (.take 14 (.one 13 (.one 15 (.take 16 (.take 17 (.take 18 (.take 19 (.one 20 (.take 21 (.take 22 .nil))))))))))))))))))))))) 9999 (by kernel_rfl) (by kernel_rfl) (by kernel_rfl) (by kernel_rfl) (by kernel_rfl) (fun _ _ d _ _ h => by cases d <;> exact h) ?_ (fun hHeld => ?_); (focus (exact (Below.refl _ _).drew)); simp only [Tree.map, List.getElem?_toArray, List.getElem?_cons_zero, List.getElem?_cons_succ]
                  refine wpTree.one (fun K hK => ?_)
                  go_simp
                  go_at_call 7
                  refine (alive7_any _).mono ?_
                  rintro e z1 ⟨rfl, hbz1⟩
                  have hBelow := Below.trans hHeld (hbz1.mono (Below.size hHeld))
                  refine hK.out _ _ hBelow (fun hHeld' => ?_)
                  clear hK K hHeld hbz1 hBelow
                  have hHeld := hHeld'
                  clear hHeld'
                  (repeat (first | (refine wpTree.take (v := undef) (Or.inr ⟨by rfl, rfl⟩) ?_; simp only [Act.put, List.setIfInBounds_toArray, List.set_cons_zero, List.set_cons_succ]) | (refine wpTree.take (v := .agg (Mk.cells ?_).toArray) (yieldsIf_load_mid rfl 29 _ rfl _ _ rfl (Mk.cells _) _ ?_ Try.underlying29 rfl (mkinfo _)) ?_; rotate_left; (focus (intro _ hS; refine mrange_next hS ?_; assumption)); simp only [Act.put, List.setIfInBounds_toArray, List.set_cons_zero, List.set_cons_succ]) | (refine wpTree.take (v := .agg (Tt.cells ?_).toArray) (yieldsIf_load_mid rfl 47 _ rfl _ _ rfl (Tt.cells _) _ ?_ Try.underlying47 rfl (ttinfo _)) ?_; rotate_left; (focus (intro _ hS; refine mrange_next hS ?_; assumption)); simp only [Act.put, List.setIfInBounds_toArray, List.set_cons_zero, List.set_cons_succ]) | (refine wpTree.take (v := ?_) (Or.inl ⟨by rfl, ?_⟩) ?_; rotate_left; (focus (intro _ hS; (try dsimp only at hS); go_split_ands; (try subst hS); go_simp; (try (with_reducible rfl)); done)); simp only [Act.put, List.setIfInBounds_toArray, List.set_cons_zero, List.set_cons_succ])))
                  refine wpTree.one (fun K hK => ?_)
                  go_simp
                  go_at_call 14
                  refine (HRJ.out _).mono ?_
                  rintro e z2 ⟨rfl, hbz2⟩
                  have hBelow := Below.trans hHeld (hbz2.mono (Below.size hHeld))
                  refine hK.out _ _ hBelow (fun hHeld' => ?_)
                  clear hK K hHeld hbz2 hBelow
                  have hHeld := hHeld'
                  clear hHeld'
                  (repeat (first | (refine wpTree.take (v := undef) (Or.inr ⟨by rfl, rfl⟩) ?_; simp only [Act.put, List.setIfInBounds_toArray, List.set_cons_zero, List.set_cons_succ]) | (refine wpTree.take (v := .agg (Mk.cells ?_).toArray) (yieldsIf_load_mid rfl 29 _ rfl _ _ rfl (Mk.cells _) _ ?_ Try.underlying29 rfl (mkinfo _)) ?_; rotate_left; (focus (intro _ hS; refine mrange_next hS ?_; assumption)); simp only [Act.put, List.setIfInBounds_toArray, List.set_cons_zero, List.set_cons_succ]) | (refine wpTree.take (v := .agg (Tt.cells ?_).toArray) (yieldsIf_load_mid rfl 47 _ rfl _ _ rfl (Tt.cells _) _ ?_ Try.underlying47 rfl (ttinfo _)) ?_; rotate_left; (focus (intro _ hS; refine mrange_next hS ?_; assumption)); simp only [Act.put, List.setIfInBounds_toArray, List.set_cons_zero, List.set_cons_succ]) | (refine wpTree.take (v := ?_) (Or.inl ⟨by rfl, ?_⟩) ?_; rotate_left; (focus (intro _ hS; (try dsimp only at hS); go_split_ands; (try subst hS); go_simp; (try (with_reducible rfl)); done)); simp only [Act.put, List.setIfInBounds_toArray, List.set_cons_zero, List.set_cons_succ])))
                  refine wpTree.one (fun K hK => ?_)
                  go_simp
                  go_at_call 12
                  refine (HJ2.out _ hHeld).mono ?_
                  rintro e z3 ⟨rfl, hbz3⟩
                  have hBelow := Below.trans hHeld (hbz3.mono (Below.size hHeld))
                  refine hK.out _ _ hBelow (fun hHeld' => ?_)
                  clear hK K hHeld hbz3 hBelow
                  have hHeld := hHeld'
                  clear hHeld'
                  (repeat (first | (refine wpTree.take (v := undef) (Or.inr ⟨by rfl, rfl⟩) ?_; simp only [Act.put, List.setIfInBounds_toArray, List.set_cons_zero, List.set_cons_succ]) | (refine wpTree.take (v := .agg (Mk.cells ?_).toArray) (yieldsIf_load_mid rfl 29 _ rfl _ _ rfl (Mk.cells _) _ ?_ Try.underlying29 rfl (mkinfo _)) ?_; rotate_left; (focus (intro _ hS; refine mrange_next hS ?_; assumption)); simp only [Act.put, List.setIfInBounds_toArray, List.set_cons_zero, List.set_cons_succ]) | (refine wpTree.take (v := .agg (Tt.cells ?_).toArray) (yieldsIf_load_mid rfl 47 _ rfl _ _ rfl (Tt.cells _) _ ?_ Try.underlying47 rfl (ttinfo _)) ?_; rotate_left; (focus (intro _ hS; refine mrange_next hS ?_; assumption)); simp only [Act.put, List.setIfInBounds_toArray, List.set_cons_zero, List.set_cons_succ]) | (refine wpTree.take (v := ?_) (Or.inl ⟨by rfl, ?_⟩) ?_; rotate_left; (focus (intro _ hS; (try dsimp only at hS); go_split_ands; (try subst hS); go_simp; (try (with_reducible rfl)); done)); simp only [Act.put, List.setIfInBounds_toArray, List.set_cons_zero, List.set_cons_succ])))
                  refine wpTree.one (fun K hK => ?_)
                  go_simp
                  go_at_call 15
                  refine (HSJ.out _).mono ?_
                  rintro e z4 ⟨rfl, hbz4⟩
                  have hBelow := Below.trans hHeld (hbz4.mono (Below.size hHeld))
                  refine hK.out _ _ hBelow (fun hHeld' => ?_)
                  clear hK K hHeld hbz4 hBelow
                  have hHeld := hHeld'
                  clear hHeld'
                  (repeat (first | (refine wpTree.take (v := undef) (Or.inr ⟨by rfl, rfl⟩) ?_; simp only [Act.put, List.setIfInBounds_toArray, List.set_cons_zero, List.set_cons_succ]) | (refine wpTree.take (v := .agg (Mk.cells ?_).toArray) (yieldsIf_load_mid rfl 29 _ rfl _ _ rfl (Mk.cells _) _ ?_ Try.underlying29 rfl (mkinfo _)) ?_; rotate_left; (focus (intro _ hS; refine mrange_next hS ?_; assumption)); simp only [Act.put, List.setIfInBounds_toArray, List.set_cons_zero, List.set_cons_succ]) | (refine wpTree.take (v := .agg (Tt.cells ?_).toArray) (yieldsIf_load_mid rfl 47 _ rfl _ _ rfl (Tt.cells _) _ ?_ Try.underlying47 rfl (ttinfo _)) ?_; rotate_left; (focus (intro _ hS; refine mrange_next hS ?_; assumption)); simp only [Act.put, List.setIfInBounds_toArray, List.set_cons_zero, List.set_cons_succ]) | (refine wpTree.take (v := ?_) (Or.inl ⟨by rfl, ?_⟩) ?_; rotate_left; (focus (intro _ hS; (try dsimp only at hS); go_split_ands; (try subst hS); go_simp; (try (with_reducible rfl)); done)); simp only [Act.put, List.setIfInBounds_toArray, List.set_cons_zero, List.set_cons_succ])))
                  refine wpTree.one (fun K hK => ?_)
                  go_simp
                  go_at_call 12
                  refine (HJ3.out _ hHeld).mono ?_
                  rintro e z5 ⟨rfl, hbz5⟩
                  have hBelow := Below.trans hHeld (hbz5.mono (Below.size hHeld))
                  refine hK.out _ _ hBelow (fun hHeld' => ?_)
                  clear hK K hHeld hbz5 hBelow
                  have hHeld := hHeld'
                  clear hHeld'
                  (repeat (first | (refine wpTree.take (v := undef) (Or.inr ⟨by rfl, rfl⟩) ?_; simp only [Act.put, List.setIfInBounds_toArray, List.set_cons_zero, List.set_cons_succ]) | (refine wpTree.take (v := .agg (Mk.cells ?_).toArray) (yieldsIf_load_mid rfl 29 _ rfl _ _ rfl (Mk.cells _) _ ?_ Try.underlying29 rfl (mkinfo _)) ?_; rotate_left; (focus (intro _ hS; refine mrange_next hS ?_; assumption)); simp only [Act.put, List.setIfInBounds_toArray, List.set_cons_zero, List.set_cons_succ]) | (refine wpTree.take (v := .agg (Tt.cells ?_).toArray) (yieldsIf_load_mid rfl 47 _ rfl _ _ rfl (Tt.cells _) _ ?_ Try.underlying47 rfl (ttinfo _)) ?_; rotate_left; (focus (intro _ hS; refine mrange_next hS ?_; assumption)); simp only [Act.put, List.setIfInBounds_toArray, List.set_cons_zero, List.set_cons_succ]) | (refine wpTree.take (v := ?_) (Or.inl ⟨by rfl, ?_⟩) ?_; rotate_left; (focus (intro _ hS; (try dsimp only at hS); go_split_ands; (try subst hS); go_simp; (try (with_reducible rfl)); done)); simp only [Act.put, List.setIfInBounds_toArray, List.set_cons_zero, List.set_cons_succ])))
                  refine wpTree.one (fun K hK => ?_)
                  go_simp
                  go_at_call 15
                  refine (HSJ.out _).mono ?_
                  rintro e z6 ⟨rfl, hbz6⟩
                  have hBelow := Below.trans hHeld (hbz6.mono (Below.size hHeld))
                  refine hK.out _ _ hBelow (fun hHeld' => ?_)
                  clear hK K hHeld hbz6 hBelow
                  have hHeld := hHeld'
                  clear hHeld'
                  (repeat (first | (refine wpTree.take (v := undef) (Or.inr ⟨by rfl, rfl⟩) ?_; simp only [Act.put, List.setIfInBounds_toArray, List.set_cons_zero, List.set_cons_succ]) | (refine wpTree.take (v := .agg (Mk.cells ?_).toArray) (yieldsIf_load_mid rfl 29 _ rfl _ _ rfl (Mk.cells _) _ ?_ Try.underlying29 rfl (mkinfo _)) ?_; rotate_left; (focus (intro _ hS; refine mrange_next hS ?_; assumption)); simp only [Act.put, List.setIfInBounds_toArray, List.set_cons_zero, List.set_cons_succ]) | (refine wpTree.take (v := .agg (Tt.cells ?_).toArray) (yieldsIf_load_mid rfl 47 _ rfl _ _ rfl (Tt.cells _) _ ?_ Try.underlying47 rfl (ttinfo _)) ?_; rotate_left; (focus (intro _ hS; refine mrange_next hS ?_; assumption)); simp only [Act.put, List.setIfInBounds_toArray, List.set_cons_zero, List.set_cons_succ]) | (refine wpTree.take (v := ?_) (Or.inl ⟨by rfl, ?_⟩) ?_; rotate_left; (focus (intro _ hS; (try dsimp only at hS); go_split_ands; (try subst hS); go_simp; (try (with_reducible rfl)); done)); simp only [Act.put, List.setIfInBounds_toArray, List.set_cons_zero, List.set_cons_succ])))
                  refine wpTree.one (fun K hK => ?_)
                  go_simp
                  go_at_call 15
                  refine (HSJ.out _).mono ?_
                  rintro e z7 ⟨rfl, hbz7⟩
                  have hBelow := Below.trans hHeld (hbz7.mono (Below.size hHeld))
                  refine hK.out _ _ hBelow (fun hHeld' => ?_)
                  clear hK K hHeld hbz7 hBelow
                  have hHeld := hHeld'
                  clear hHeld'
                  (repeat (first | (refine wpTree.take (v := undef) (Or.inr ⟨by rfl, rfl⟩) ?_; simp only [Act.put, List.setIfInBounds_toArray, List.set_cons_zero, List.set_cons_succ]) | (refine wpTree.take (v := .agg (Mk.cells ?_).toArray) (yieldsIf_load_mid rfl 29 _ rfl _ _ rfl (Mk.cells _) _ ?_ Try.underlying29 rfl (mkinfo _)) ?_; rotate_left; (focus (intro _ hS; refine mrange_next hS ?_; assumption)); simp only [Act.put, List.setIfInBounds_toArray, List.set_cons_zero, List.set_cons_succ]) | (refine wpTree.take (v := .agg (Tt.cells ?_).toArray) (yieldsIf_load_mid rfl 47 _ rfl _ _ rfl (Tt.cells _) _ ?_ Try.underlying47 rfl (ttinfo _)) ?_; rotate_left; (focus (intro _ hS; refine mrange_next hS ?_; assumption)); simp only [Act.put, List.setIfInBounds_toArray, List.set_cons_zero, List.set_cons_succ]) | (refine wpTree.take (v := ?_) (Or.inl ⟨by rfl, ?_⟩) ?_; rotate_left; (focus (intro _ hS; (try dsimp only at hS); go_split_ands; (try subst hS); go_simp; (try (with_reducible rfl)); done)); simp only [Act.put, List.setIfInBounds_toArray, List.set_cons_zero, List.set_cons_succ])))
                  refine wpTree.done ?_
                  have HF := Lib.hid (HBW.out.trans (hHeld.mono HBW.out.size))
                  clear hHeld hrP hrJ HBW
                  go_wp2_with fail
                  go_ret
                  exact ⟨rfl, HF.out⟩
          · have hor : turn < 0 ∨ (¬ turn < 0 ∧ (n : Int) ≤ turn) ∨ (¬ turn < 0 ∧ ¬ (n : Int) ≤ turn ∧ cut < 0) ∨ (¬ turn < 0 ∧ ¬ (n : Int) ≤ turn ∧ ¬ cut < 0 ∧ (n : Int) < cut) := by omega
            clear hgood HT HM
            rcases hor with a1 | ⟨a1, a2⟩ | ⟨a1, a2, a3⟩ | ⟨a1, a2, a3, a4⟩
            all_goals
              go_wp2_with fail
              refine (alive7_any wr).mono ?_
              rintro e z1 ⟨rfl, hb⟩
              have HB4 := Lib.hid (HBW.out.trans (hb.mono HBW.out.size))
              clear hb HBW
              go_wp2_with fail
              go_ret
              exact ⟨rfl, HB4.out⟩
  · have h1 : (100 : Int) < (n : Nat) := by omega
    go_wp2_with fail
    refine (alive7_any W).mono ?_
    rintro e w1 ⟨rfl, hb⟩
    have HB1 := Lib.hid hb
    clear hb
    go_wp2_with fail
    go_ret
    exact ⟨rfl, HB1.out⟩
end Go.Proofs.Ytggcjcobonijfaa

/-
cuts: CutsRise.
-/
import Derived.Test.YtedgecijgjcfeaaCu26
namespace Go.Proofs.Ytedgecijgjcfeaa
open Go.RowKit Go.ChangeShapes Go.WideShapes Go.ChangeAt Go.WideElems
set_option linter.unusedSimpArgs false
set_option linter.unusedVariables false
/-- A slice of cuts that stands apart from the blocks F. -/
def WR (w : World) (F : Nat → Prop) (x : Value) (cs : List Ct) : Prop :=
  ∃ A c, x = .slice A cs.length c ∧ ∀ (k : Nat) (y : Ct), cs[k]? = some y → ∃ g, A = some ⟨g, 0, none⟩ ∧ g < w.heap.size ∧ ¬ F g ∧ w.rangeAt g (k * 14) y.cells
theorem WR.nil (w : World) (F : Nat → Prop) : WR w F (.slice none 0 0) [] := ⟨none, 0, rfl, fun k y h => by simp at h⟩
theorem WR.turn {w w' : World} {F G : Nat → Prop} {B : Nat} {x : Value} {cs : List Ct} (h : WR w F x cs) (ht : Turn B F w w') (hG : ∀ k, G k → F k ∨ w.heap.size ≤ k) : WR w' G x cs := by
  obtain ⟨A, c, e, h⟩ := h
  refine ⟨A, c, e, fun k y hk => ?_⟩
  obtain ⟨g, e, h1, h2, h3⟩ := h k y hk
  exact ⟨g, e, Nat.lt_of_lt_of_le h1 ht.1.size, fun hg => (hG g hg).elim h2 (by omega), fun j u hj => (World.cell?_of_block (ht.2 g h1 h2)).trans (h3 j u hj)⟩
theorem WR.next {w w' : World} {F : Nat → Prop} {x : Value} {cs : List Ct} (h : WR w F x cs) (hb : Below w.heap.size w w') : WR w' F x cs := by
  obtain ⟨A, c, e, h⟩ := h
  refine ⟨A, c, e, fun k y hk => ?_⟩
  obtain ⟨g, e, h1, h2, h3⟩ := h k y hk
  exact ⟨g, e, Nat.lt_of_lt_of_le h1 hb.size, h2, fun j u hj => (hb.cell (p := ⟨g, _, none⟩) h1).trans (h3 j u hj)⟩
theorem WR.own {w : World} {F : Nat → Prop} {B : Nat} {v : Value} {cs : List Ct} (h : w.ownsRow B 47 14 v cs.length (cts cs)) (hF : ∀ k, F k → k < B) : WR w F v cs := by
  by_cases h0 : cs.length = 0
  · obtain ⟨A, c, rfl, -⟩ := ownG_slice h
    exact ⟨A, c, rfl, fun k y hk => by have := (List.getElem?_eq_some_iff.1 hk).1; omega⟩
  · obtain ⟨g, c, rfl, hg, hr⟩ := ct_row h h0
    refine ⟨some ⟨g, 0, none⟩, c, rfl, fun k y hk => ⟨g, rfl, hg, fun hFg => ?_, hr k y hk⟩⟩
    obtain ⟨_, ⟨e, hz⟩ | ⟨g2, cap, cur, e, hg2, _⟩⟩ := h
    · exact absurd hz h0
    · simp only [Value.slice.injEq, Option.some.injEq, Addr.mk.injEq] at e
      have := hF g hFg
      omega
/-- A round of one home alone. -/
theorem step_rise {W : World} {B t : Nat} {F : Nat → Prop} {v : Value} {cs : List Ct} (T : Tb W B t F 3 0 v cs Sd.zero Sd.zero) (hl : cs.length ≤ 20) (hR : Rise cs) (tm : Nat) (f : Nat → Nat) :
    Calls Try.prog 8 #[.pointer (some ⟨t, 0, none⟩), .int .u64 (tm : Nat), .agg (vl f).toArray] W fun e W' => ∃ y, e = .returned y ∧ ∃ cs2 v2 G, Tb W' B t G 3 0 v2 cs2 Sd.zero Sd.zero ∧ Rise cs2 ∧ cs2.length ≤ 20 ∧ cs.length ≤ cs2.length ∧ (∀ (k : Nat) (x : Ct), cs[k]? = some x → cs2[k]? = some x) ∧ Turn B F W W' ∧ ∀ k, G k → F k ∨ W.heap.size ≤ k := by
  have hB : B ≤ W.heap.size := Nat.le_of_lt (Nat.lt_of_le_of_lt (T.low t T.ft).1 (T.low t T.ft).2)
  refine (propose_any W T (by decide) (by omega) tm f).mono ?_
  intro e W' h
  rcases h with ⟨h0, rfl, hb⟩ | ⟨h0, rfl, v', T', tn⟩
  · exact ⟨_, rfl, cs, v, F, T.next hb, hR, hl, Nat.le_refl _, fun k x h => h, ⟨hb.mono hB, fun k hk _ => hb.block k hk⟩, fun k hk => Or.inl hk⟩
  · obtain ⟨h1, h2, h3⟩ := prop_ok h0
    rw [won_alone] at T'
    exact ⟨_, rfl, cs ++ [⟨3, tm, f⟩], v', _, T', hR.add h2 h3, by rw [List.length_append, List.length_singleton]; omega, by rw [List.length_append]; omega,
      fun k x h => by rw [List.getElem?_append_left (List.getElem?_eq_some_iff.1 h).1]; exact h, tn, fun k hk => hk.elim Or.inl (fun h => Or.inr h.1)⟩
theorem Cu.w_add (k : Nat) (h : k ≤ 100) : wrap64 ((k : Int) + 1) = ((k + 1 : Nat) : Int) := by unfold wrap64; omega
theorem Cu.w_sub (k kp : Nat) (h : k = kp + 1) (h2 : k ≤ 100) : wrap64 ((k : Int) - 1) = ((kp : Nat) : Int) := by unfold wrap64; omega
theorem Cu.w_sub2 (k kp : Nat) (h : k = kp + 1) (h2 : k ≤ 100) : IntKind.i64.wrap ((k : Int) - 1) = ((kp : Nat) : Int) := by rw [IntKind.wrap_i64]; omega
theorem rng_below {w w' : World} {g o : Nat} {vs : List Value} (h : w.rangeAt g o vs) (hb : Below w.heap.size w w') : w'.rangeAt g o vs := fun j v hj => (hb.cell (World.block_lt_of_cell? w _ (h j v hj))).trans (h j v hj)
theorem ordI_neq (x y : Ct) (h : ordI y.f x.f = 1) : (ordI y.f x.f != 1) = false := by rw [h]; rfl
theorem eqCt_self (c : Ct) : ∀ w, (Op.equalIn 10000 47 (.agg c.cells.toArray) (.agg c.cells.toArray)).run Try.prog w = .ok true w := fun w => by
  rw [eq_ct]
  have : eqCt c c = true := by unfold eqCt; simp [eqB_self]
  rw [this]
set_option maxHeartbeats 64000000 in
set_option maxRecDepth 20000 in
theorem rise_walk (W : World) (A : Option Addr) (L c : Nat) (l : List Cu.Sy) (hl : l.length = L) (hc : L ≤ 9223372036854775807) (hr : RowsOf Cu.Sy.cells 15 W A l) :
    Calls Try.prog 4 #[.slice A L c] W fun e W' => e = .returned (.bool true) ∧ Below W.heap.size W W' := by
  have HRW := Lib.hid hr
  have HLL := Lib.hid hl
  have HCC := Lib.hid hc
  have HN1 := Lib.hid (new_ok W 3 0 rfl)
  clear hr hl hc
  go_enter Try.func4, Try.ntmps4
  go_upto_region 2 with (first | (go_at_call 6; refine HN1.out.mono ?_; rintro e w1 ⟨rfl, hT, hb, -⟩; have HT1 := Lib.hid hT; have HB1 := Lib.hid hb; clear hT hb HN1))
  obtain ⟨t, ht⟩ : ∃ t, t = W.heap.size := ⟨_, rfl⟩
  rw [← ht] at HT1 ⊢
  have Ht := Lib.hid ht
  clear ht
  go_upto_region 6 with fail
  go_loopw [5, 6] (fun x i wr => ∃ j : Nat, j ≤ 60 ∧ i = .int .i64 j ∧ ∃ cs v F, Tb wr t t F 3 0 v cs Sd.zero Sd.zero ∧ Rise cs ∧ cs.length ≤ 20 ∧ WR wr F x cs ∧ Below W.heap.size W wr) (fun _ i _ => 60 - (intOf i).toNat)
  case atStart => exact ⟨0, by omega, rfl, [], _, _, HT1.out, Rise.nil, by simp, WR.nil _ _, HB1.out⟩
  case round =>
    obtain ⟨j, hj, rfl, cs, v, F, hT, hRi, hl20, hW, hb⟩ := hrel
    have HT := Lib.hid hT
    have HRi := Lib.hid hRi
    have HL20 := Lib.hid hl20
    have HW := Lib.hid hW
    have HB := Lib.hid hb
    obtain ⟨Aw, cw, rfl, -⟩ := hW
    clear hT hRi hl20 hb HT1 HB1
    by_cases hjl : j < L ∧ j < 60
    · obtain ⟨x, hx⟩ : ∃ x, l[j]? = some x := ⟨_, List.getElem?_eq_getElem (by rw [HLL.out]; exact hjl.1)⟩
      have i1 : (j : Int) < (L : Nat) := by omega
      have i2 : (j : Int) < 60 := by omega
      obtain hh | ⟨b, o, rfl, hbl, hro⟩ := HRW.out
      · subst hh; simp at hx
      have hxl : x = l[j]'(by rw [HLL.out]; exact hjl.1) := by rw [List.getElem?_eq_getElem (by rw [HLL.out]; exact hjl.1)] at hx; injection hx with hx; exact hx.symm
      have hrx : wr.rangeAt b (o + j * 15) x.cells := by
        rw [hxl]
        exact fun i u hi => (HB.out.cell (p := ⟨b, _, none⟩) hbl).trans (hro j (by rw [HLL.out]; exact hjl.1) i u hi)
      have q2 : wr.cell? ⟨b, o + j * 15 + 2, none⟩ = some (.int .u64 (x.t : Nat)) := hrx 2 _ rfl
      have rv : wr.rangeAt b (o + j * 15 + 3) (vl x.f) := fun i u hi => by rw [show o + j * 15 + 3 + i = o + j * 15 + (3 + i) by omega]; exact hrx (3 + i) u (by rw [Cu.sy_3, hi])
      have HBT := Lib.hid (show b < t by rw [Ht.out]; exact hbl)
      have HJL := Lib.hid hjl
      clear hrx hxl hx hro hbl
      go_upto_region 8 with fail
      have HSR := Lib.hid (step_rise (W := wr.drew) (HT.out.next (Below.refl _ _).drew) HL20.out HRi.out x.t x.f)
      refine wp_region_tree (S := (fun w' => w'.cell? ⟨b, o + j * 15 + 2, none⟩ = some (.int .u64 (x.t : Nat)) ∧ w'.rangeAt b (o + j * 15 + 3) (vl x.f))) (.take 0 (.take 1 (.take 2 (.take 3 (.take 4 (.take 5 (.take 6 (.take 7 (.take 8 (.take 9 (.take 10 (.one 11 .nil)))))))))))) 9999 (by kernel_rfl) (by kernel_rfl) (by kernel_rfl) (by kernel_rfl) (by kernel_rfl) (fun _ _ d _ _ h => by cases d <;> exact h) ⟨q2, rv⟩ (fun hHeld => ?_); simp only [Tree.map, List.getElem?_toArray, List.getElem?_cons_zero, List.getElem?_cons_succ]
      (repeat (first | (refine wpTree.take (v := undef) (Or.inr ⟨by rfl, rfl⟩) ?_; simp only [Act.put, List.setIfInBounds_toArray, List.set_cons_zero, List.set_cons_succ]) | (refine wpTree.take (v := .agg (vl x.f).toArray) (yieldsIf_load_mid rfl 33 _ rfl _ _ rfl (vl x.f) _ (fun _ hS => hS.2) Try.underlying33 rfl (vinfoL _)) ?_; simp only [Act.put, List.setIfInBounds_toArray, List.set_cons_zero, List.set_cons_succ]) | (refine wpTree.take (v := ?_) (Or.inl ⟨by rfl, ?_⟩) ?_; rotate_left; (focus (intro _ hS; (try dsimp only at hS); go_split_ands; (try subst hS); go_simp; (try (with_reducible rfl)); done)); simp only [Act.put, List.setIfInBounds_toArray, List.set_cons_zero, List.set_cons_succ])))
      refine wpTree.one (fun K hK => ?_)
      go_simp
      go_at_call 8
      refine HSR.out.mono ?_
      rintro e w9 ⟨yv, rfl, cs2, v2, G, hT2, hR2, hl2, hlen, hpre, htn, hG⟩
      refine hK.out _ _ ⟨(htn.1.cell (p := ⟨b, _, none⟩) HBT.out).trans q2, fun i u hi => (htn.1.cell (p := ⟨b, _, none⟩) HBT.out).trans (rv i u hi)⟩ (fun _ => ?_)
      clear hK K q2 rv hHeld HSR
      (try simp only [Act.put, List.setIfInBounds_toArray, List.set_cons_zero, List.set_cons_succ])
      refine wpTree.done ?_
      have HT2 := Lib.hid hT2
      have HR2 := Lib.hid hR2
      have HP := Lib.hid (And.intro hl2 (And.intro hlen hpre))
      have hW2 := (HW.out.next (Below.refl _ _).drew).turn htn hG
      have HW2 := Lib.hid hW2
      have HB9 := Lib.hid (show Below W.heap.size W w9 from HB.out.trans (by have h := htn.1; rw [Ht.out] at h; exact ⟨h.os, h.tape, h.output, h.size, h.block⟩))
      have HC := Lib.hid (cuts_any w9 hT2 (by omega))
      have hGl := fun k (hk : G k) => (hT2.low k hk).2
      have HGL := Lib.hid hGl
      clear hT2 hR2 hl2 hlen hpre hW2 hG htn hGl HT HRi HL20 HW
      go_upto_region 10 with (first | (go_at_call 7; refine HC.out.mono ?_; rintro e w10 ⟨vn, rfl, hO, hb⟩; have HNR := Lib.hid (WR.own hO HGL.out); have HWR := Lib.hid (HW2.out.next hb); have HT10 := Lib.hid (HT2.out.next hb); have HB10 := Lib.hid (HB9.out.trans (hb.mono HB9.out.size)); clear hO hb))
      obtain ⟨An, cn, rfl, hnr⟩ := HNR.out
      obtain ⟨Aw2, cw2, he, hwr⟩ := HWR.out
      simp only [Value.slice.injEq, true_and] at he
      obtain ⟨rfl, rfl⟩ := he
      have HNRR := Lib.hid hnr
      have HWRR := Lib.hid hwr
      clear hnr hwr HC HW2 HT2 HB9
      obtain ⟨n, hn⟩ : ∃ n, n = cs2.length := ⟨_, rfl⟩
      obtain ⟨m, hm⟩ : ∃ m, m = cs.length := ⟨_, rfl⟩
      rw [← hn] at HP ⊢
      rw [← hm] at HP ⊢
      have HNM := Lib.hid (And.intro hn hm)
      clear hn hm
      have i3 : ¬ ((n : Nat) : Int) < (m : Nat) := by have := HP.out.2.1; omega
      have i4 : ¬ (20 : Int) < (n : Nat) := by have := HP.out.1; omega
      go_upto_region 13 with fail
      clear i1 i2 i3 i4
      go_loopw [8] (fun i wr2 => ∃ k : Nat, k ≤ n ∧ i = .int .i64 k ∧ Below w10.heap.size w10 wr2) (fun i _ => n - (intOf i).toNat)
      case atStart => exact ⟨0, Nat.zero_le _, rfl, Below.refl _ _⟩
      case round =>
        obtain ⟨k, hk, rfl, hbk⟩ := hrel
        have HBk := Lib.hid hbk
        have hn20 : n ≤ 20 := HP.out.1
        by_cases hkn : k < n
        · obtain ⟨y, hy⟩ : ∃ y, cs2[k]? = some y := ⟨_, List.getElem?_eq_getElem (by rw [← HNM.out.1]; exact hkn)⟩
          obtain ⟨gn, rfl, hgn, -, hny⟩ := HNRR.out k y hy
          have hn1 : wr.rangeAt gn (k * 14) y.cells := fun i u hi => (hbk.cell (p := ⟨gn, _, none⟩) hgn).trans (hny i u hi)
          have hn0 : wr.cell? ⟨gn, k * 14, none⟩ = some (.int .i64 3) := by rw [← (HR2.out.2 y (List.mem_of_getElem? hy))]; exact hn1 0 _ (ct_0 y)
          have hn2 : wr.rangeAt gn (k * 14 + 2) (vl y.f) := fun i u hi => by rw [Nat.add_assoc]; exact hn1 (2 + i) u (by rw [ct_2, hi])
          have eq1 := eqCt_self y
          clear hny
          by_cases hkm : k < m
          · have hxm : cs[k]? = some y := by
              obtain ⟨z, hz⟩ : ∃ z, cs[k]? = some z := ⟨_, List.getElem?_eq_getElem (by rw [← HNM.out.2]; exact hkm)⟩
              have := HP.out.2.2 k z hz
              rw [hy] at this
              rw [hz, this]
            obtain ⟨gw, rfl, hgw, -, hwy⟩ := HWRR.out k y hxm
            have hw1 : wr.rangeAt gw (k * 14) y.cells := fun i u hi => (hbk.cell (p := ⟨gw, _, none⟩) hgw).trans (hwy i u hi)
            clear hwy
            by_cases hk0 : k = 0
            · have i5 : ¬ (0 : Int) < (k : Nat) := by omega
              have i5n : ¬ 0 < k := by omega
              have i5d : decide (0 < k) = false := by simp [hk0]
              have i6 : (k : Int) < (m : Nat) := by omega
              have i7 : (k : Int) < (n : Nat) := by omega
              clear hy hxm hbk hn2 hk0
              go_upto_region 15 with fail
              refine wp_region_tree (S := (fun w' => w'.rangeAt gn (k * 14) y.cells ∧ w'.cell? ⟨gn, k * 14, none⟩ = some (.int .i64 3) ∧ w'.rangeAt gw (k * 14) y.cells)) (.take 0 (.take 1 (.take 2 (.take 3 (.take 4 (.take 5 (.take 6 (.take 7 (.take 8 (.take 9 (.take 10 (.take 11 (.take 12 (.take 13 (.take 14 (.take 15 (.take 16 (.take 17 (.take 18 (.take 19 (.take 20 (.take 21 (.take 22 (.take 23 (.take 24 (.take 25 (.take 26 (.take 27 (.take 28 (.take 29 (.one 30 (.take 31 (.take 32 (.take 33 (.take 34 (.take 35 (.take 36 (.take 37 (.take 38 (.take 39 (.take 40 (.take 41 .nil)))))))))))))))))))))))))))))))))))))))))) 9999 (by kernel_rfl) (by kernel_rfl) (by kernel_rfl) (by kernel_rfl) (by kernel_rfl) (fun _ _ d _ _ h => by cases d <;> exact h) ⟨hn1, hn0, hw1⟩ (fun hHeld => ?_); simp only [Tree.map, List.getElem?_toArray, List.getElem?_cons_zero, List.getElem?_cons_succ]
              (repeat (first | (refine wpTree.take (v := undef) (Or.inr ⟨by rfl, rfl⟩) ?_; simp only [Act.put, List.setIfInBounds_toArray, List.set_cons_zero, List.set_cons_succ]) | (refine wpTree.take (v := .agg y.cells.toArray) (yieldsIf_load_mid rfl 47 _ rfl _ _ rfl y.cells _ (fun _ hS => hS.1) Try.underlying47 rfl (ctinfo _)) ?_; simp only [Act.put, List.setIfInBounds_toArray, List.set_cons_zero, List.set_cons_succ]) | (refine wpTree.take (v := .agg y.cells.toArray) (yieldsIf_load_mid rfl 47 _ rfl _ _ rfl y.cells _ (fun _ hS => hS.2.2) Try.underlying47 rfl (ctinfo _)) ?_; simp only [Act.put, List.setIfInBounds_toArray, List.set_cons_zero, List.set_cons_succ]) | (refine wpTree.take (v := ?_) (Or.inl ⟨by rfl, ?_⟩) ?_; rotate_left; (focus (intro _ hS; (try dsimp only at hS); go_split_ands; (try subst hS); go_simp; (try (with_reducible rfl)); done)); simp only [Act.put, List.setIfInBounds_toArray, List.set_cons_zero, List.set_cons_succ])))
              refine wpTree.one (fun K hK => ?_)
              show K _ _
              refine hK.out _ _ hHeld (fun _ => ?_)
              have HB11 := Lib.hid HBk.out.drew
              clear hK K
              (try simp only [Act.put, List.setIfInBounds_toArray, List.set_cons_zero, List.set_cons_succ])
              (repeat (first | (refine wpTree.take (v := undef) (Or.inr ⟨by rfl, rfl⟩) ?_; simp only [Act.put, List.setIfInBounds_toArray, List.set_cons_zero, List.set_cons_succ]) | (refine wpTree.take (v := .agg y.cells.toArray) (yieldsIf_load_mid rfl 47 _ rfl _ _ rfl y.cells _ (fun _ hS => hS.1) Try.underlying47 rfl (ctinfo _)) ?_; simp only [Act.put, List.setIfInBounds_toArray, List.set_cons_zero, List.set_cons_succ]) | (refine wpTree.take (v := .agg y.cells.toArray) (yieldsIf_load_mid rfl 47 _ rfl _ _ rfl y.cells _ (fun _ hS => hS.2.2) Try.underlying47 rfl (ctinfo _)) ?_; simp only [Act.put, List.setIfInBounds_toArray, List.set_cons_zero, List.set_cons_succ]) | (refine wpTree.take (v := ?_) (Or.inl ⟨by rfl, ?_⟩) ?_; rotate_left; (focus (intro _ hS; (try dsimp only at hS); go_split_ands; (try subst hS); go_simp; (try (with_reducible rfl)); done)); simp only [Act.put, List.setIfInBounds_toArray, List.set_cons_zero, List.set_cons_succ])))
              refine wpTree.done ?_
              clear hHeld hn1 hn0 hw1
              have k1 : wrap64 ((k : Int) + 1) = ((k + 1 : Nat) : Int) := Cu.w_add k (by omega)
              go_wp2_with fail
              go_roundw
              case rel => exact ⟨k + 1, by omega, by first | rfl | rw [k1] | simp [k1] | go_num, HB11.out⟩
              case measure => simp [intOf]; omega
            · obtain ⟨kp, hkp⟩ : ∃ kp, k = kp + 1 := ⟨k - 1, by omega⟩
              obtain ⟨p, hp⟩ : ∃ p, cs2[kp]? = some p := ⟨_, List.getElem?_eq_getElem (by rw [← HNM.out.1]; omega)⟩
              obtain ⟨gp, egp, hgp, -, hpy⟩ := HNRR.out kp p hp
              simp only [Option.some.injEq, Addr.mk.injEq, and_true] at egp
              subst egp
              have hp2 : wr.rangeAt gn (kp * 14 + 2) (vl p.f) := fun i u hi => by rw [Nat.add_assoc]; exact (hbk.cell (p := ⟨gn, _, none⟩) hgp).trans (hpy (2 + i) u (by rw [ct_2, hi]))
              have HORD := Lib.hid (HR2.out.1 kp p y hp (by rw [← hkp]; exact hy))
              have hk100 : k ≤ 100 := by omega
              have i8 : (kp : Int) < (n : Nat) := by omega
              have i9 : ¬ ((kp : Nat) : Int) < 0 := by omega
              have i10 : (0 : Int) ≤ ((kp : Nat) : Int) := by omega
              have i11 : kp < n := by omega
              have i5 : (0 : Int) < (k : Nat) := by omega
              have i5n : 0 < k := by omega
              have i5d : decide (0 < k) = true := by simp [i5n]
              have i7 : (k : Int) < (n : Nat) := by omega
              clear hpy hp
              have i6 : (k : Int) < (m : Nat) := by omega
              clear hy hxm hbk hk0
              have e1 : wrap64 ((k : Int) - 1) = ((kp : Nat) : Int) := Cu.w_sub k kp hkp hk100
              have e2 : IntKind.i64.wrap ((k : Int) - 1) = ((kp : Nat) : Int) := Cu.w_sub2 k kp hkp hk100
              clear hkp hk100
              go_upto_region 15 with fail
              refine wp_region_tree (S := (fun w' => w'.rangeAt gn (k * 14) y.cells ∧ w'.cell? ⟨gn, k * 14, none⟩ = some (.int .i64 3) ∧ w'.rangeAt gw (k * 14) y.cells ∧ w'.rangeAt gn (k * 14 + 2) (vl y.f) ∧ w'.rangeAt gn (kp * 14 + 2) (vl p.f))) (.take 0 (.take 1 (.take 2 (.take 3 (.take 4 (.take 5 (.take 6 (.take 7 (.take 8 (.take 9 (.take 10 (.take 11 (.take 12 (.take 13 (.take 14 (.take 15 (.take 16 (.take 17 (.take 18 (.take 19 (.take 20 (.take 21 (.take 22 (.take 23 (.take 24 (.take 25 (.take 26 (.take 27 (.take 28 (.take 29 (.one 30 (.take 31 (.take 32 (.take 33 (.take 34 (.take 35 (.take 36 (.take 37 (.take 38 (.take 39 (.take 40 (.take 41 .nil)))))))))))))))))))))))))))))))))))))))))) 9999 (by kernel_rfl) (by kernel_rfl) (by kernel_rfl) (by kernel_rfl) (by kernel_rfl) (fun _ _ d _ _ h => by cases d <;> exact h) ⟨hn1, hn0, hw1, hn2, hp2⟩ (fun hHeld => ?_); simp only [Tree.map, List.getElem?_toArray, List.getElem?_cons_zero, List.getElem?_cons_succ]
              (repeat (first | (refine wpTree.take (v := undef) (Or.inr ⟨by rfl, rfl⟩) ?_; simp only [Act.put, List.setIfInBounds_toArray, List.set_cons_zero, List.set_cons_succ]) | (refine wpTree.take (v := .agg y.cells.toArray) (yieldsIf_load_mid rfl 47 _ rfl _ _ rfl y.cells _ (fun _ hS => hS.1) Try.underlying47 rfl (ctinfo _)) ?_; simp only [Act.put, List.setIfInBounds_toArray, List.set_cons_zero, List.set_cons_succ]) | (refine wpTree.take (v := .agg y.cells.toArray) (yieldsIf_load_mid rfl 47 _ rfl _ _ rfl y.cells _ (fun _ hS => hS.2.2.1) Try.underlying47 rfl (ctinfo _)) ?_; simp only [Act.put, List.setIfInBounds_toArray, List.set_cons_zero, List.set_cons_succ]) | (refine wpTree.take (v := .agg (vl y.f).toArray) (yieldsIf_load_mid rfl 33 _ rfl _ _ rfl (vl y.f) _ (fun _ hS => hS.2.2.2.1) Try.underlying33 rfl (vinfoL _)) ?_; simp only [Act.put, List.setIfInBounds_toArray, List.set_cons_zero, List.set_cons_succ]) | (refine wpTree.take (v := .agg (vl p.f).toArray) (yieldsIf_load_mid rfl 33 _ rfl _ _ rfl (vl p.f) _ (fun _ hS => hS.2.2.2.2) Try.underlying33 rfl (vinfoL _)) ?_; simp only [Act.put, List.setIfInBounds_toArray, List.set_cons_zero, List.set_cons_succ]) | (refine wpTree.take (v := ?_) (Or.inl ⟨by rfl, ?_⟩) ?_; rotate_left; (focus (intro _ hS; (try dsimp only at hS); go_split_ands; (try subst hS); go_simp; (try (with_reducible rfl)); done)); simp only [Act.put, List.setIfInBounds_toArray, List.set_cons_zero, List.set_cons_succ])))
              refine wpTree.one (fun K hK => ?_)
              go_simp
              go_at_call 11
              refine (order_any y.f p.f _).mono ?_
              rintro e w11 ⟨rfl, hb⟩
              rw [HORD.out]
              have hb' : Below wr.heap.size wr w11 := ⟨hb.os, hb.tape, hb.output, hb.size, hb.block⟩
              refine hK.out _ _ ⟨rng_below hn1 hb', (hb'.cell (World.block_lt_of_cell? wr _ hn0)).trans hn0, rng_below hw1 hb', rng_below hn2 hb', rng_below hp2 hb'⟩ (fun _ => ?_)
              have HB11 := Lib.hid (HBk.out.trans (hb'.mono HBk.out.size))
              clear hK K hb hb'
              (try simp only [Act.put, List.setIfInBounds_toArray, List.set_cons_zero, List.set_cons_succ])
              (repeat (first | (refine wpTree.take (v := undef) (Or.inr ⟨by rfl, rfl⟩) ?_; simp only [Act.put, List.setIfInBounds_toArray, List.set_cons_zero, List.set_cons_succ]) | (refine wpTree.take (v := .agg y.cells.toArray) (yieldsIf_load_mid rfl 47 _ rfl _ _ rfl y.cells _ (fun _ hS => hS.1) Try.underlying47 rfl (ctinfo _)) ?_; simp only [Act.put, List.setIfInBounds_toArray, List.set_cons_zero, List.set_cons_succ]) | (refine wpTree.take (v := .agg y.cells.toArray) (yieldsIf_load_mid rfl 47 _ rfl _ _ rfl y.cells _ (fun _ hS => hS.2.2.1) Try.underlying47 rfl (ctinfo _)) ?_; simp only [Act.put, List.setIfInBounds_toArray, List.set_cons_zero, List.set_cons_succ]) | (refine wpTree.take (v := .agg (vl y.f).toArray) (yieldsIf_load_mid rfl 33 _ rfl _ _ rfl (vl y.f) _ (fun _ hS => hS.2.2.2.1) Try.underlying33 rfl (vinfoL _)) ?_; simp only [Act.put, List.setIfInBounds_toArray, List.set_cons_zero, List.set_cons_succ]) | (refine wpTree.take (v := .agg (vl p.f).toArray) (yieldsIf_load_mid rfl 33 _ rfl _ _ rfl (vl p.f) _ (fun _ hS => hS.2.2.2.2) Try.underlying33 rfl (vinfoL _)) ?_; simp only [Act.put, List.setIfInBounds_toArray, List.set_cons_zero, List.set_cons_succ]) | (refine wpTree.take (v := ?_) (Or.inl ⟨by rfl, ?_⟩) ?_; rotate_left; (focus (intro _ hS; (try dsimp only at hS); go_split_ands; (try subst hS); go_simp; (try (with_reducible rfl)); done)); simp only [Act.put, List.setIfInBounds_toArray, List.set_cons_zero, List.set_cons_succ])))
              refine wpTree.done ?_
              clear e1 e2 hHeld hn1 hn0 hw1 hn2 hp2
              have k1 : wrap64 ((k : Int) + 1) = ((k + 1 : Nat) : Int) := Cu.w_add k (by omega)
              go_wp2_with fail
              go_roundw
              case rel => exact ⟨k + 1, by omega, by first | rfl | rw [k1] | simp [k1] | go_num, HB11.out⟩
              case measure => simp [intOf]; omega
          · by_cases hk0 : k = 0
            · have i5 : ¬ (0 : Int) < (k : Nat) := by omega
              have i5n : ¬ 0 < k := by omega
              have i5d : decide (0 < k) = false := by simp [hk0]
              have i6 : ¬ (k : Int) < (m : Nat) := by omega
              have i7 : (k : Int) < (n : Nat) := by omega
              clear hy hbk hn2 hk0
              go_upto_region 15 with fail
              refine wp_region_tree (S := (fun w' => w'.rangeAt gn (k * 14) y.cells ∧ w'.cell? ⟨gn, k * 14, none⟩ = some (.int .i64 3))) (.take 0 (.take 1 (.take 2 (.take 3 (.take 4 (.take 5 (.take 6 (.take 7 (.take 8 (.take 9 (.take 10 (.take 11 (.take 12 (.take 13 (.take 14 (.take 15 (.take 16 (.take 17 (.take 18 (.take 19 (.take 20 (.take 21 (.take 22 (.take 23 (.take 24 (.take 25 (.take 26 (.take 27 (.take 28 (.take 29 (.one 30 (.take 31 (.take 32 (.take 33 (.take 34 (.take 35 (.take 36 (.take 37 (.take 38 (.take 39 (.take 40 (.take 41 .nil)))))))))))))))))))))))))))))))))))))))))) 9999 (by kernel_rfl) (by kernel_rfl) (by kernel_rfl) (by kernel_rfl) (by kernel_rfl) (fun _ _ d _ _ h => by cases d <;> exact h) ⟨hn1, hn0⟩ (fun hHeld => ?_); simp only [Tree.map, List.getElem?_toArray, List.getElem?_cons_zero, List.getElem?_cons_succ]
              (repeat (first | (refine wpTree.take (v := undef) (Or.inr ⟨by rfl, rfl⟩) ?_; simp only [Act.put, List.setIfInBounds_toArray, List.set_cons_zero, List.set_cons_succ]) | (refine wpTree.take (v := .agg y.cells.toArray) (yieldsIf_load_mid rfl 47 _ rfl _ _ rfl y.cells _ (fun _ hS => hS.1) Try.underlying47 rfl (ctinfo _)) ?_; simp only [Act.put, List.setIfInBounds_toArray, List.set_cons_zero, List.set_cons_succ]) | (refine wpTree.take (v := ?_) (Or.inl ⟨by rfl, ?_⟩) ?_; rotate_left; (focus (intro _ hS; (try dsimp only at hS); go_split_ands; (try subst hS); go_simp; (try (with_reducible rfl)); done)); simp only [Act.put, List.setIfInBounds_toArray, List.set_cons_zero, List.set_cons_succ])))
              refine wpTree.one (fun K hK => ?_)
              show K _ _
              refine hK.out _ _ hHeld (fun _ => ?_)
              have HB11 := Lib.hid HBk.out.drew
              clear hK K
              (try simp only [Act.put, List.setIfInBounds_toArray, List.set_cons_zero, List.set_cons_succ])
              (repeat (first | (refine wpTree.take (v := undef) (Or.inr ⟨by rfl, rfl⟩) ?_; simp only [Act.put, List.setIfInBounds_toArray, List.set_cons_zero, List.set_cons_succ]) | (refine wpTree.take (v := .agg y.cells.toArray) (yieldsIf_load_mid rfl 47 _ rfl _ _ rfl y.cells _ (fun _ hS => hS.1) Try.underlying47 rfl (ctinfo _)) ?_; simp only [Act.put, List.setIfInBounds_toArray, List.set_cons_zero, List.set_cons_succ]) | (refine wpTree.take (v := ?_) (Or.inl ⟨by rfl, ?_⟩) ?_; rotate_left; (focus (intro _ hS; (try dsimp only at hS); go_split_ands; (try subst hS); go_simp; (try (with_reducible rfl)); done)); simp only [Act.put, List.setIfInBounds_toArray, List.set_cons_zero, List.set_cons_succ])))
              refine wpTree.done ?_
              clear hHeld hn1 hn0
              have k1 : wrap64 ((k : Int) + 1) = ((k + 1 : Nat) : Int) := Cu.w_add k (by omega)
              go_wp2_with fail
              go_roundw
              case rel => exact ⟨k + 1, by omega, by first | rfl | rw [k1] | simp [k1] | go_num, HB11.out⟩
              case measure => simp [intOf]; omega
            · obtain ⟨kp, hkp⟩ : ∃ kp, k = kp + 1 := ⟨k - 1, by omega⟩
              obtain ⟨p, hp⟩ : ∃ p, cs2[kp]? = some p := ⟨_, List.getElem?_eq_getElem (by rw [← HNM.out.1]; omega)⟩
              obtain ⟨gp, egp, hgp, -, hpy⟩ := HNRR.out kp p hp
              simp only [Option.some.injEq, Addr.mk.injEq, and_true] at egp
              subst egp
              have hp2 : wr.rangeAt gn (kp * 14 + 2) (vl p.f) := fun i u hi => by rw [Nat.add_assoc]; exact (hbk.cell (p := ⟨gn, _, none⟩) hgp).trans (hpy (2 + i) u (by rw [ct_2, hi]))
              have HORD := Lib.hid (HR2.out.1 kp p y hp (by rw [← hkp]; exact hy))
              have hk100 : k ≤ 100 := by omega
              have i8 : (kp : Int) < (n : Nat) := by omega
              have i9 : ¬ ((kp : Nat) : Int) < 0 := by omega
              have i10 : (0 : Int) ≤ ((kp : Nat) : Int) := by omega
              have i11 : kp < n := by omega
              have i5 : (0 : Int) < (k : Nat) := by omega
              have i5n : 0 < k := by omega
              have i5d : decide (0 < k) = true := by simp [i5n]
              have i7 : (k : Int) < (n : Nat) := by omega
              clear hpy hp
              have i6 : ¬ (k : Int) < (m : Nat) := by omega
              clear hy hbk hk0
              have e1 : wrap64 ((k : Int) - 1) = ((kp : Nat) : Int) := Cu.w_sub k kp hkp hk100
              have e2 : IntKind.i64.wrap ((k : Int) - 1) = ((kp : Nat) : Int) := Cu.w_sub2 k kp hkp hk100
              clear hkp hk100
              go_upto_region 15 with fail
              refine wp_region_tree (S := (fun w' => w'.rangeAt gn (k * 14) y.cells ∧ w'.cell? ⟨gn, k * 14, none⟩ = some (.int .i64 3) ∧ w'.rangeAt gn (k * 14 + 2) (vl y.f) ∧ w'.rangeAt gn (kp * 14 + 2) (vl p.f))) (.take 0 (.take 1 (.take 2 (.take 3 (.take 4 (.take 5 (.take 6 (.take 7 (.take 8 (.take 9 (.take 10 (.take 11 (.take 12 (.take 13 (.take 14 (.take 15 (.take 16 (.take 17 (.take 18 (.take 19 (.take 20 (.take 21 (.take 22 (.take 23 (.take 24 (.take 25 (.take 26 (.take 27 (.take 28 (.take 29 (.one 30 (.take 31 (.take 32 (.take 33 (.take 34 (.take 35 (.take 36 (.take 37 (.take 38 (.take 39 (.take 40 (.take 41 .nil)))))))))))))))))))))))))))))))))))))))))) 9999 (by kernel_rfl) (by kernel_rfl) (by kernel_rfl) (by kernel_rfl) (by kernel_rfl) (fun _ _ d _ _ h => by cases d <;> exact h) ⟨hn1, hn0, hn2, hp2⟩ (fun hHeld => ?_); simp only [Tree.map, List.getElem?_toArray, List.getElem?_cons_zero, List.getElem?_cons_succ]
              (repeat (first | (refine wpTree.take (v := undef) (Or.inr ⟨by rfl, rfl⟩) ?_; simp only [Act.put, List.setIfInBounds_toArray, List.set_cons_zero, List.set_cons_succ]) | (refine wpTree.take (v := .agg y.cells.toArray) (yieldsIf_load_mid rfl 47 _ rfl _ _ rfl y.cells _ (fun _ hS => hS.1) Try.underlying47 rfl (ctinfo _)) ?_; simp only [Act.put, List.setIfInBounds_toArray, List.set_cons_zero, List.set_cons_succ]) | (refine wpTree.take (v := .agg (vl y.f).toArray) (yieldsIf_load_mid rfl 33 _ rfl _ _ rfl (vl y.f) _ (fun _ hS => hS.2.2.1) Try.underlying33 rfl (vinfoL _)) ?_; simp only [Act.put, List.setIfInBounds_toArray, List.set_cons_zero, List.set_cons_succ]) | (refine wpTree.take (v := .agg (vl p.f).toArray) (yieldsIf_load_mid rfl 33 _ rfl _ _ rfl (vl p.f) _ (fun _ hS => hS.2.2.2) Try.underlying33 rfl (vinfoL _)) ?_; simp only [Act.put, List.setIfInBounds_toArray, List.set_cons_zero, List.set_cons_succ]) | (refine wpTree.take (v := ?_) (Or.inl ⟨by rfl, ?_⟩) ?_; rotate_left; (focus (intro _ hS; (try dsimp only at hS); go_split_ands; (try subst hS); go_simp; (try (with_reducible rfl)); done)); simp only [Act.put, List.setIfInBounds_toArray, List.set_cons_zero, List.set_cons_succ])))
              refine wpTree.one (fun K hK => ?_)
              go_simp
              go_at_call 11
              refine (order_any y.f p.f _).mono ?_
              rintro e w11 ⟨rfl, hb⟩
              rw [HORD.out]
              have hb' : Below wr.heap.size wr w11 := ⟨hb.os, hb.tape, hb.output, hb.size, hb.block⟩
              refine hK.out _ _ ⟨rng_below hn1 hb', (hb'.cell (World.block_lt_of_cell? wr _ hn0)).trans hn0, rng_below hn2 hb', rng_below hp2 hb'⟩ (fun _ => ?_)
              have HB11 := Lib.hid (HBk.out.trans (hb'.mono HBk.out.size))
              clear hK K hb hb'
              (try simp only [Act.put, List.setIfInBounds_toArray, List.set_cons_zero, List.set_cons_succ])
              (repeat (first | (refine wpTree.take (v := undef) (Or.inr ⟨by rfl, rfl⟩) ?_; simp only [Act.put, List.setIfInBounds_toArray, List.set_cons_zero, List.set_cons_succ]) | (refine wpTree.take (v := .agg y.cells.toArray) (yieldsIf_load_mid rfl 47 _ rfl _ _ rfl y.cells _ (fun _ hS => hS.1) Try.underlying47 rfl (ctinfo _)) ?_; simp only [Act.put, List.setIfInBounds_toArray, List.set_cons_zero, List.set_cons_succ]) | (refine wpTree.take (v := .agg (vl y.f).toArray) (yieldsIf_load_mid rfl 33 _ rfl _ _ rfl (vl y.f) _ (fun _ hS => hS.2.2.1) Try.underlying33 rfl (vinfoL _)) ?_; simp only [Act.put, List.setIfInBounds_toArray, List.set_cons_zero, List.set_cons_succ]) | (refine wpTree.take (v := .agg (vl p.f).toArray) (yieldsIf_load_mid rfl 33 _ rfl _ _ rfl (vl p.f) _ (fun _ hS => hS.2.2.2) Try.underlying33 rfl (vinfoL _)) ?_; simp only [Act.put, List.setIfInBounds_toArray, List.set_cons_zero, List.set_cons_succ]) | (refine wpTree.take (v := ?_) (Or.inl ⟨by rfl, ?_⟩) ?_; rotate_left; (focus (intro _ hS; (try dsimp only at hS); go_split_ands; (try subst hS); go_simp; (try (with_reducible rfl)); done)); simp only [Act.put, List.setIfInBounds_toArray, List.set_cons_zero, List.set_cons_succ])))
              refine wpTree.done ?_
              clear e1 e2 hHeld hn1 hn0 hn2 hp2
              have k1 : wrap64 ((k : Int) + 1) = ((k + 1 : Nat) : Int) := Cu.w_add k (by omega)
              go_wp2_with fail
              go_roundw
              case rel => exact ⟨k + 1, by omega, by first | rfl | rw [k1] | simp [k1] | go_num, HB11.out⟩
              case measure => simp [intOf]; omega
        · obtain rfl : k = n := by omega
          have i7 : ¬ (k : Int) < (k : Nat) := by omega
          have j1 : wrap64 ((j : Int) + 1) = ((j + 1 : Nat) : Int) := Cu.w_add j (by omega)
          go_wp2_with fail
          go_roundw
          case rel => exact ⟨j + 1, by have := HJL.out.2; omega, by first | rfl | rw [j1] | go_num, cs2, v2, G, HT10.out.next hbk, HR2.out, by rw [← HNM.out.1]; exact HP.out.1, by rw [HNM.out.1]; exact WR.next ⟨An, cn, rfl, HNRR.out⟩ hbk, HB10.out.trans (hbk.mono HB10.out.size)⟩
          case measure => have := HJL.out.2; simp [intOf, j1]; omega
    · have HX := Lib.hid hjl
      clear hjl
      by_cases hj1 : j < L
      · have i1 : (j : Int) < (L : Nat) := by omega
        have i2 : ¬ (j : Int) < 60 := by have := HX.out; omega
        go_wp2_with (go_at_call 10; refine (alive_any _).mono ?_; rintro e w13 ⟨rfl, hb⟩; have HB13 := Lib.hid (HB.out.trans (hb.mono HB.out.size)); clear hb)
        exact ⟨rfl, .bool true, by simp [results, Try.results4, go_sem], rfl, HB13.out⟩
      · have i1 : ¬ (j : Int) < (L : Nat) := by omega
        go_wp2_with (go_at_call 10; refine (alive_any _).mono ?_; rintro e w13 ⟨rfl, hb⟩; have HB13 := Lib.hid (HB.out.trans (hb.mono HB.out.size)); clear hb)
        exact ⟨rfl, .bool true, by simp [results, Try.results4, go_sem], rfl, HB13.out⟩
end Go.Proofs.Ytedgecijgjcfeaa

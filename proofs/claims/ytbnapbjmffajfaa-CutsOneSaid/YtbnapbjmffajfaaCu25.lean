/-
cuts: the fixed test of each law.
-/
import Derived.Test.YtbnapbjmffajfaaCu24
namespace Go.Proofs.Ytbnapbjmffajfaa
open Go.RowKit
set_option linter.unusedSimpArgs false
set_option linter.unusedVariables false
section
variable {W : World} {B t : Nat} {F : Nat → Prop} {own other : Int} {v : Value} {cs : List Ct} {a b : Sd}
theorem dec_some {W' : World} {c : Ct} (hw : won own other a b = some c) (hD : DecP W B t F own other cs a b W') : ∃ G v', Tb W' B t G own other v' (cs ++ [c]) Sd.zero Sd.zero ∧ Below B W W' := by
  obtain ⟨v', T', tn⟩ := hD
  rw [hw] at T'
  exact ⟨_, v', T', tn.1⟩
theorem dec_none {W' : World} (hw : won own other a b = none) (hD : DecP W B t F own other cs a b W') : ∃ G v', Tb W' B t G own other v' cs a b ∧ Below B W W' := by
  obtain ⟨v', T', tn⟩ := hD
  rw [hw] at T'
  simp only [Option.toList_none, List.append_nil] at T'
  exact ⟨_, v', T', tn.1⟩
theorem step_bad (T : Tb W B t F own other v cs a b) (ho : own ≠ 0) (hl : cs.length ≤ 100000) (tm : Nat) (f : Nat → Nat) (n : Int) (hn : propE cs a ⟨true, tm, f⟩ = n) (h0 : n ≠ 0) :
    Calls Try.prog 8 #[.pointer (some ⟨t, 0, none⟩), .int .u64 (tm : Nat), .agg (vl f).toArray] W fun e W' => e = .returned (.tuple #[.agg St.zero.cells.toArray, .int .i64 n]) ∧ Below W.heap.size W W' := by
  refine (propose_any W T ho hl tm f).mono ?_
  intro e W' h
  rw [hn] at h
  exact h.elim (fun h => h.2) (fun h => absurd h.1 h0)
theorem step_some (T : Tb W B t F own other v cs a b) (ho : own ≠ 0) (hl : cs.length ≤ 100000) (tm : Nat) (f : Nat → Nat) (c : Ct) (hn : propE cs a ⟨true, tm, f⟩ = 0) (hw : won own other ⟨true, true, tm, f⟩ b = some c) :
    Calls Try.prog 8 #[.pointer (some ⟨t, 0, none⟩), .int .u64 (tm : Nat), .agg (vl f).toArray] W fun e W' => e = .returned (.tuple #[.agg (St.mk true tm f).cells.toArray, .int .i64 0]) ∧ ∃ G v', Tb W' B t G own other v' (cs ++ [c]) Sd.zero Sd.zero ∧ Below B W W' := by
  refine (propose_any W T ho hl tm f).mono ?_
  intro e W' h
  exact h.elim (fun h => absurd hn h.1) (fun h => ⟨h.2.1, dec_some hw h.2.2⟩)
theorem step_none (T : Tb W B t F own other v cs a b) (ho : own ≠ 0) (hl : cs.length ≤ 100000) (tm : Nat) (f : Nat → Nat) (hn : propE cs a ⟨true, tm, f⟩ = 0) (hw : won own other ⟨true, true, tm, f⟩ b = none) :
    Calls Try.prog 8 #[.pointer (some ⟨t, 0, none⟩), .int .u64 (tm : Nat), .agg (vl f).toArray] W fun e W' => e = .returned (.tuple #[.agg (St.mk true tm f).cells.toArray, .int .i64 0]) ∧ ∃ G v', Tb W' B t G own other v' cs ⟨true, true, tm, f⟩ b ∧ Below B W W' := by
  refine (propose_any W T ho hl tm f).mono ?_
  intro e W' h
  exact h.elim (fun h => absurd hn h.1) (fun h => ⟨h.2.1, dec_none hw h.2.2⟩)
theorem step_hear (T : Tb W B t F own other v cs a b) (ho : own ≠ 0) (hl : cs.length ≤ 100000) (r : Int) (s : St) (c : Ct) (hn : hearE other cs b r s = 0) (hp : promP a s = false) (hw : won own other a ⟨true, s⟩ = some c) :
    Calls Try.prog 9 #[.pointer (some ⟨t, 0, none⟩), .int .i64 r, .agg s.cells.toArray] W fun e W' => e = .returned (.tuple #[.bool false, .int .i64 0]) ∧ ∃ G v', Tb W' B t G own other v' (cs ++ [c]) Sd.zero Sd.zero ∧ Below B W W' := by
  refine (hear_any W T ho hl r s).mono ?_
  intro e W' h
  unfold HearP at h
  rw [hp] at h
  exact h.elim (fun h => absurd hn h.1) (fun h => ⟨h.2.1, dec_some hw h.2.2⟩)
end
theorem Cu.load_midg {P : Program} {ops : Array Oper} {rest : List Oper} {op : Oper} {a : Act} {w : World} {Q : Exit → Act → World → Prop} (hw : Region.wanted op (yielded ops a.tmps) = true) (ty : TypeId) (x : Operand) (ho : op.op = .load ty x)
    (b o : Nat) (hx : a.eval x = .pointer (some ⟨b, o, none⟩)) (cs : List Value) (d : TypeDesc) (hc : w.rangeAt b o cs)
    (hu : P.underlying ty = some d) (hd : d.isRow = true) (hi : (P.info? ty).map (·.size) = some cs.length)
    (h : wpList P ops Q rest (a.put op.dst (.agg cs.toArray)) w) : wpList P ops Q (op :: rest) a w :=
  wpList_step fun _ hK => by
    rw [if_pos hw]
    exact wp_load_mid ty x ho b o hx cs d hc hu hd hi (hK _ _ h)

/-- A row of cuts that is not empty. -/
theorem ct_row {W : World} {B : Nat} {v : Value} {l : List Ct} (h : W.ownsRow B 47 14 v l.length (cts l)) (h0 : l.length ≠ 0) :
    ∃ g c, v = .slice (some ⟨g, 0, none⟩) l.length c ∧ g < W.heap.size ∧ ∀ (k : Nat) (x : Ct), l[k]? = some x → W.rangeAt g (k * 14) x.cells := by
  have hr := h
  obtain ⟨hl, ⟨e, hz⟩ | ⟨g, cap, cur, e, hg, hh, hnc, r⟩⟩ := h
  · exact absurd hz h0
  · subst e
    refine ⟨g, cap, rfl, (Array.getElem?_eq_some_iff.1 hh).1, fun k x hx j u hj => ?_⟩
    have hj2 : j < 14 := by have := (List.getElem?_eq_some_iff.1 hj).1; rwa [ct_len] at this
    have h1 := cts_get l k x j hx hj2
    rw [hj] at h1
    have h2 := hr.cells rfl (14 * k + j) u h1
    rw [Addr.add_mid] at h2
    rw [show k * 14 + j = 0 + (14 * k + j) by omega]
    exact h2
/-- A row of bytes that is not empty. -/
theorem u8_row {W : World} {B n : Nat} {v : Value} {bs : List Nat} (h : W.ownsRow B 5 1 v n (u8s bs)) (h0 : n ≠ 0) :
    ∃ g cap, v = .slice (some ⟨g, 0, none⟩) n cap ∧ n ≤ cap ∧ g < W.heap.size ∧ ∀ (i x : Nat), bs[i]? = some x → W.cell? ⟨g, 0 + i, none⟩ = some (.int .u8 (x : Nat)) := by
  have h1 := h
  obtain ⟨hl, ⟨e, hz⟩ | ⟨g, cap, cur, e, hg, hh, hnc, r⟩⟩ := h
  · exact absurd hz h0
  · subst e
    refine ⟨g, cap, rfl, hnc, (Array.getElem?_eq_some_iff.1 hh).1, fun i x hx => ?_⟩
    have := h1.cells rfl i (.int .u8 (x : Nat)) (by unfold u8s; rw [List.getElem?_map, hx]; rfl)
    rwa [Addr.add_mid] at this
set_option maxHeartbeats 8000000 in
set_option maxRecDepth 20000 in
theorem alive_any (W : World) : Calls Try.prog 10 #[] W fun e W' => e = .returned (.bool true) ∧ Below W.heap.size W W' := by
  have bf1 := Cu.built_f1
  have bf2 := Cu.built_f2
  have bst := built_st3 ⟨true, 4, Cu.f2⟩
  have bct := built_ct ⟨1, 5, Cu.f1⟩
  have HN1 := Lib.hid (new_ok W 1 0 rfl)
  go_enter Try.func10, Try.ntmps10
  go_upto_region 2 with (first | (go_at_call 6; refine HN1.out.mono ?_; rintro e w1 ⟨rfl, hT, hb, -⟩; have HT1 := Lib.hid hT; have HB1 := Lib.hid hb; clear hT hb HN1))
  obtain ⟨t, ht⟩ : ∃ t, t = W.heap.size := ⟨_, rfl⟩
  rw [← ht] at HT1 ⊢
  have Ht := Lib.hid ht
  clear ht
  have HN2 := Lib.hid (new_bad w1 1 1 rfl)
  go_upto_region 3 with (first | (go_at_call 6; refine HN2.out.mono ?_; rintro e wx ⟨rfl, rfl⟩))
  clear HN2
  have HP1 := Lib.hid (step_some HT1.out (by decide) (by decide) 5 Cu.f1 _ Cu.prop1 Cu.won1)
  go_upto_region 4 with (first | (refine wpList_build_lit (vl Cu.f1).toArray rfl 33 _ rfl bf1 ?_) | (go_at_call 8; refine HP1.out.mono ?_; rintro e w2 ⟨rfl, G, v2, hT, hb⟩; have HT2 := Lib.hid hT; have HB2 := Lib.hid hb; clear hT hb) | (refine wpList_store_blk rfl 39 _ _ rfl w2.heap.size 39 #[.bool false, .int .u64 0, .int .u32 0, .int .u32 0, .int .u32 0, .int .u32 0, .int .u32 0, .int .u32 0, .int .u32 0, .int .u32 0, .int .u32 0, .int .u32 0, .int .u32 0, .int .u32 0] (St.mk true 5 Cu.f1).cells.toArray rfl rfl (Blk.new w2 _ _) (stinfoA _) (st_siz _) (st_one _) ?_; intro b5; clear b5))
  rw [Wr.alloc_setRow]
  clear HP1
  have HX := Lib.hid (below_box w2 39 (St.mk true 5 Cu.f1).cells.toArray)
  obtain ⟨w3, hw3⟩ : ∃ w3, w3 = w2.alloc (.cells (St.mk true 5 Cu.f1).cells.toArray 39) := ⟨_, rfl⟩
  obtain ⟨g5, hg5⟩ : ∃ g5, g5 = w2.heap.size := ⟨_, rfl⟩
  rw [← hw3] at HX ⊢
  rw [← hg5] at ⊢
  clear hw3 hg5
  have HT3 := Lib.hid (HT2.out.next HX.out)
  have HB3 := Lib.hid (show Below W.heap.size W w3 from by
    have h1 := HB1.out
    have h2 : Below W.heap.size w1 w2 := by rw [← Ht.out]; exact HB2.out
    exact (h1.trans h2).trans (HX.out.mono ((h1.trans h2).size)))
  clear HX HB1 HB2 HT1 HT2
  have HP2 := Lib.hid (step_bad HT3.out (by decide) (by decide) 6 Cu.f1 4 Cu.prop2 (by decide))
  go_upto_region 5 with (first | (refine wpList_build_lit (vl Cu.f1).toArray rfl 33 _ rfl bf1 ?_) | (go_at_call 8; refine HP2.out.mono ?_; rintro e w4 ⟨rfl, hb⟩; have HB4 := Lib.hid hb; clear hb) | (refine wpList_store_blk rfl 39 _ _ rfl w4.heap.size 39 #[.bool false, .int .u64 0, .int .u32 0, .int .u32 0, .int .u32 0, .int .u32 0, .int .u32 0, .int .u32 0, .int .u32 0, .int .u32 0, .int .u32 0, .int .u32 0, .int .u32 0, .int .u32 0] St.zero.cells.toArray rfl rfl (Blk.new w4 _ _) (stinfoA _) (st_siz _) (st_one _) ?_; intro b5; clear b5))
  rw [Wr.alloc_setRow]
  clear HP2
  have HX := Lib.hid (HB4.out.trans ((below_box w4 39 St.zero.cells.toArray).mono HB4.out.size))
  obtain ⟨w5, hw5⟩ : ∃ w5, w5 = w4.alloc (.cells St.zero.cells.toArray 39) := ⟨_, rfl⟩
  obtain ⟨g7, hg7⟩ : ∃ g7, g7 = w4.heap.size := ⟨_, rfl⟩
  rw [← hw5] at HX ⊢
  rw [← hg7] at ⊢
  clear hw5 hg7
  have HT5 := Lib.hid (HT3.out.next HX.out)
  have HB5 := Lib.hid (HB3.out.trans (HX.out.mono HB3.out.size))
  clear HX HB3 HB4 HT3
  have HC := Lib.hid (cuts_any w5 HT5.out (by decide))
  go_upto_region 6 with (first | (go_at_call 7; refine HC.out.mono ?_; rintro e w6 ⟨vl6, rfl, hO, hb⟩; have HO6 := Lib.hid hO; have HB6 := Lib.hid (HB5.out.trans (hb.mono HB5.out.size)); clear hO hb))
  clear HC HT5 HB5
  obtain ⟨gl, cl, rfl, hgl, hrl⟩ := ct_row HO6.out (by decide)
  have HR6 := Lib.hid (hrl 0 _ rfl)
  have HGL := Lib.hid hgl
  clear hrl hgl HO6
  have HN3 := Lib.hid (new_ok w6 1 2 rfl)
  go_upto_region 7 with (first | (go_at_call 6; refine HN3.out.mono ?_; rintro e w7 ⟨rfl, hT, hb, -⟩; have HT7 := Lib.hid hT; have HB7 := Lib.hid hb; clear hT hb HN3))
  obtain ⟨u, hu⟩ : ∃ u, u = w6.heap.size := ⟨_, rfl⟩
  rw [← hu] at HT7 HB7 HGL ⊢
  have Hu := Lib.hid hu
  clear hu
  have HP3 := Lib.hid (step_none HT7.out (by decide) (by decide) 5 Cu.f1 Cu.prop1 Cu.won2)
  go_upto_region 8 with (first | (refine wpList_build_lit (vl Cu.f1).toArray rfl 33 _ rfl bf1 ?_) | (go_at_call 8; refine HP3.out.mono ?_; rintro e w8 ⟨rfl, G8, v8, hT, hb⟩; have HT8 := Lib.hid hT; have HB8 := Lib.hid (HB7.out.trans hb); clear hT hb) | (refine wpList_store_blk rfl 39 _ _ rfl w8.heap.size 39 #[.bool false, .int .u64 0, .int .u32 0, .int .u32 0, .int .u32 0, .int .u32 0, .int .u32 0, .int .u32 0, .int .u32 0, .int .u32 0, .int .u32 0, .int .u32 0, .int .u32 0, .int .u32 0] (St.mk true 5 Cu.f1).cells.toArray rfl rfl (Blk.new w8 _ _) (stinfoA _) (st_siz _) (st_one _) ?_; intro b5; clear b5))
  rw [Wr.alloc_setRow]
  clear HP3
  have HX := Lib.hid (below_box w8 39 (St.mk true 5 Cu.f1).cells.toArray)
  obtain ⟨w9, hw9⟩ : ∃ w9, w9 = w8.alloc (.cells (St.mk true 5 Cu.f1).cells.toArray 39) := ⟨_, rfl⟩
  obtain ⟨g12, hg12⟩ : ∃ g12, g12 = w8.heap.size := ⟨_, rfl⟩
  rw [← hw9] at HX ⊢
  rw [← hg12] at ⊢
  clear hw9 hg12
  have HT9 := Lib.hid (HT8.out.next HX.out)
  have HB9 := Lib.hid (HB8.out.trans (HX.out.mono (by rw [Hu.out]; exact HB8.out.size)))
  clear HX HB8 HB7 HT8 HT7
  have HOW := Lib.hid (own_any HT9.out)
  go_upto_region 9 with (first | (go_at_call 23; refine HOW.out.mono ?_; rintro e w10 ⟨rfl, hb⟩; have HB10 := Lib.hid hb; clear hb) | (refine wpList_store_blk rfl 39 _ _ rfl w10.heap.size 39 #[.bool false, .int .u64 0, .int .u32 0, .int .u32 0, .int .u32 0, .int .u32 0, .int .u32 0, .int .u32 0, .int .u32 0, .int .u32 0, .int .u32 0, .int .u32 0, .int .u32 0, .int .u32 0] (St.mk true 5 Cu.f1).cells.toArray rfl rfl (Blk.new w10 _ _) (stinfoA _) (st_siz _) (st_one _) ?_; intro b5; clear b5))
  rw [Wr.alloc_setRow]
  clear HOW
  have HX := Lib.hid (HB10.out.trans ((below_box w10 39 (St.mk true 5 Cu.f1).cells.toArray).mono HB10.out.size))
  obtain ⟨w11, hw11⟩ : ∃ w11, w11 = w10.alloc (.cells (St.mk true 5 Cu.f1).cells.toArray 39) := ⟨_, rfl⟩
  obtain ⟨g14, hg14⟩ : ∃ g14, g14 = w10.heap.size := ⟨_, rfl⟩
  rw [← hw11] at HX ⊢
  rw [← hg14] at ⊢
  clear hw11 hg14
  have HT11 := Lib.hid (HT9.out.next HX.out)
  have HB11 := Lib.hid (HB9.out.trans (HX.out.mono (by rw [Hu.out]; exact HB9.out.size)))
  clear HX HB10 HB9 HT9
  have HH := Lib.hid (step_hear HT11.out (by decide) (by decide) 1 ⟨true, 4, Cu.f2⟩ _ Cu.hear1 Cu.prom1 Cu.won3)
  go_upto_region 10 with (first | (refine wpList_build_lit (vl Cu.f2).toArray rfl 33 _ rfl bf2 ?_) | (refine wpList_build_lit (St.mk true 4 Cu.f2).cells.toArray rfl 39 _ rfl bst ?_) | (go_at_call 9; refine HH.out.mono ?_; rintro e w12 ⟨rfl, G12, v12, hT, hb⟩; have HT12 := Lib.hid hT; have HB12 := Lib.hid (HB11.out.trans hb); clear hT hb))
  clear HH HT11 HB11
  have HC := Lib.hid (cuts_any w12 HT12.out (by decide))
  go_upto_region 11 with (first | (go_at_call 7; refine HC.out.mono ?_; rintro e w13 ⟨vm, rfl, hO, hb⟩; have HO13 := Lib.hid hO; have HT13 := Lib.hid (HT12.out.next hb); have HB13 := Lib.hid (HB12.out.trans (hb.mono (by rw [Hu.out]; exact HB12.out.size))); clear hO hb))
  clear HC HT12 HB12
  obtain ⟨gm, cm, rfl, hgm, hrm⟩ := ct_row HO13.out (by decide)
  have HR13 := Lib.hid (hrm 0 _ rfl)
  have HGM := Lib.hid hgm
  clear hrm hgm HO13
  have HSV := Lib.hid (save_any w13 (o := 1) (p := 2) HT13.out (by decide) (by decide) (by decide) (by decide) (fun c hc => by simp at hc; rw [hc]; exact Cu.ok_u) Cu.ok_zero Cu.ok_zero)
  rw [List.nil_append, Cu.enc_u] at HSV
  obtain ⟨csx, ax, bx, htx⟩ := Cu.tab_u
  have HLD := Lib.hid (fun A n cp w hn hnc hbs => load_yes A n cp w [1, 2, 1, 2, 4, 2, 0, 1, 0, 0] hn hnc hbs htx)
  clear htx
  go_upto_region 12 with (first | (go_at_call 13; refine HSV.out.mono ?_; rintro e w14 ⟨vs, rfl, hO, hb⟩; have HB14 := Lib.hid hb; obtain ⟨gs, cps, rfl, hcs, hgs, hcells⟩ := u8_row hO (by decide); have HS14 := Lib.hid (And.intro hcs (And.intro hgs hcells)); clear hO hb hcs hgs hcells) | (go_at_call 14; refine (HLD.out (some ⟨gs, 0, none⟩) _ cps w14 rfl HS14.out.1 (Or.inr ⟨gs, 0, rfl, HS14.out.2.1, HS14.out.2.2⟩)).mono ?_; rintro e w15 ⟨BL, tl, FL, vL, rfl, hBL, hTL, -, -, hb⟩; have HTL := Lib.hid hTL; have HB15 := Lib.hid hb; clear hTL hb hBL))
  clear HSV HLD
  have HBA := Lib.hid (show Below u w6 w15 from by
    have h1 := HB13.out
    have h2 : u ≤ w13.heap.size := by rw [Hu.out]; exact h1.size
    have h3 := h1.trans (HB14.out.mono h2)
    exact h3.trans (HB15.out.mono (Nat.le_trans h2 HB14.out.size)))
  have HBM := Lib.hid (HB14.out.trans (HB15.out.mono HB14.out.size))
  have HT15 := Lib.hid (HT13.out.next HBM.out)
  have rl : w15.rangeAt gl 0 (Ct.mk 1 5 Cu.f1).cells := fun j x hj => (HBA.out.cell (p := ⟨gl, 0 + j, none⟩) HGL.out).trans (by have := HR6.out j x hj; rwa [Nat.zero_mul] at this)
  have cm0 : w15.cell? ⟨gm, 0, none⟩ = some (.int .i64 2) := (HBM.out.cell (p := ⟨gm, 0, none⟩) HGM.out).trans (by have := HR13.out 0 (.int .i64 2) (ct_0 _); rwa [Nat.zero_mul, Nat.zero_add] at this)
  have q1 : ∀ w, (Op.equalIn 10000 47 (.agg (Ct.mk 1 5 Cu.f1).cells.toArray) (.agg (Ct.mk 1 5 Cu.f1).cells.toArray)).run Try.prog w = .ok true w := fun w => by rw [eq_ct, show eqCt ⟨1, 5, Cu.f1⟩ ⟨1, 5, Cu.f1⟩ = true from by decide +kernel]
  have q2 := eqv (b := true) Cu.f2 Cu.f2 (by decide +kernel)
  have HLS := Lib.hid (last_any w15 HT15.out (by decide))
  rw [show lastF ([] ++ [(⟨2, 4, Cu.f2⟩ : Ct)]) = Cu.f2 from rfl] at HLS
  have HOT := Lib.hid (fun w (hb : Below w15.heap.size w15 w) => other_any w (HTL.out.next hb))
  have HBW := Lib.hid (show Below W.heap.size W w15 from (HB6.out).trans (HBA.out.mono (by rw [Hu.out]; exact HB6.out.size)))
  clear HB13 HB14 HB15 HBM HT13 HT15 HTL HBA HR6 HR13 HGL HGM HS14 Hu Ht HB6
  (try simp only [List.append_eq, List.cons_append, List.nil_append])
  go_wp2_with (first | (refine Cu.load_midg rfl 47 _ rfl _ _ rfl (Ct.mk 1 5 Cu.f1).cells _ rl Try.underlying47 rfl (ctinfo _) ?_) | (refine wpList_build_lit (vl Cu.f1).toArray rfl 33 _ rfl bf1 ?_) | (refine wpList_build_lit (Ct.mk 1 5 Cu.f1).cells.toArray rfl 47 _ rfl bct ?_) | (refine wpList_build_lit (vl Cu.f2).toArray rfl 33 _ rfl bf2 ?_) | (go_at_call 20; refine HLS.out.mono ?_; rintro e w16 ⟨rfl, hb⟩; have HB16 := Lib.hid hb; clear hb) | (go_at_call 24; refine (HOT.out _ HB16.out).mono ?_; rintro e w17 ⟨rfl, rfl⟩))
  exact ⟨rfl, .bool true, by simp [results, Try.results10, go_sem], rfl, HBW.out.trans (HB16.out.mono HBW.out.size)⟩
end Go.Proofs.Ytbnapbjmffajfaa

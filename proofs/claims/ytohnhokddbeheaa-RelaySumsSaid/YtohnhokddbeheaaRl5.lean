/-
relay: Hear.
-/
import Derived.Test.YtohnhokddbeheaaRl4
namespace Go.Proofs.Ytohnhokddbeheaa
open Go.RowKit
set_option linter.unusedSimpArgs false
set_option linter.unusedVariables false
namespace Rl
open Tr
/-- What Hear leaves. -/
def HearE (W : World) (B d : Nat) (x : R) (fr : Int) (l : Lab) (e : Ending) (W' : World) : Prop :=
  ∃ v L er y, e = .returned (.tuple #[v, .int .i64 er]) ∧ Nds W' W.heap.size v L ∧ RP W' B d y ∧ Tn B d W W' ∧ HearP x fr l L er y
set_option maxRecDepth 20000 in
set_option maxHeartbeats 8000000 in
theorem hear_any (W : World) {B d : Nat} {x : R} (h : RP W B d x) (hnd : x.nd ≠ 0) (hlen : x.t.es.length ≤ 1000000) (hc : ∀ i, x.c i ≤ 1000) (fr : Int) (l : Lab) (h9 : l.ca ≤ 9223372036854775807) :
    Calls Try.prog 15 #[.pointer (some ⟨d, 0, none⟩), .int .i64 fr, .agg l.cells.toArray] W (HearE W B d x fr l) := by
  have HNZ := Lib.hid (show (x.nd == (0 : Int)) = false by simp [hnd])
  have HLE := Lib.hid hlen
  have HCL := Lib.hid hc
  have HC9 := Lib.hid h9
  have HBW := Lib.hid (show B ≤ W.heap.size from Nat.le_trans h.2.1 (Nat.le_of_lt h.lt))
  have bb := (Below.refl W.heap.size W).alloc (Nat.le_refl _) (.cells l.cells.toArray 55)
  have hx : Blk (W.alloc (.cells l.cells.toArray 55)) W.heap.size 55 l.cells.toArray := Blk.new W _ _
  obtain ⟨w2, hw2⟩ : ∃ w2, w2 = W.alloc (.cells l.cells.toArray 55) := ⟨_, rfl⟩
  rw [← hw2] at bb hx
  have HB2 := Lib.hid bb
  have HX2 := Lib.hid hx
  have HP2 := Lib.hid (h.next bb)
  have HNO := Lib.hid (Rl.node_any w2 HP2.out)
  have HNX := Lib.hid (rnext_any w2 HP2.out hlen)
  obtain ⟨L, hL⟩ : ∃ L, L = nextL x.t x.nd := ⟨_, rfl⟩
  rw [← hL] at HNX
  have HLL := Lib.hid (show L.length ≤ 12 by rw [hL]; unfold nextL thoseL; exact those_le _ 12)
  obtain ⟨hb, hhb⟩ : ∃ hb, hb = jnB x.t x.nd fr := ⟨_, rfl⟩
  have HHA := Lib.hid (show Tr.hasB L fr = hb by rw [hL, hhb]; exact has_next _ _ _)
  have HHB := Lib.hid hhb
  obtain ⟨nd, hn⟩ : ∃ nd, nd = x.nd := ⟨_, rfl⟩
  rw [← hn] at HNO
  have t0 := HNZ.out
  rw [← hn] at t0
  have HN := Lib.hid hn
  clear bb hx h hnd hlen hc h9 hL hhb hn
  go_enter Try.func15, Try.ntmps15
  go_upto_region 1 with fail
  rw [← hw2]
  clear hw2
  obtain ⟨gl, hgl⟩ : ∃ gl, gl = W.heap.size := ⟨_, rfl⟩
  have HGL := Lib.hid hgl
  rw [← hgl] at HX2
  (try rw [← hgl])
  clear hgl
  go_upto_region 3 with (go_at_call 21; refine HNO.out.mono ?_; rintro e w3 ⟨rfl, rfl⟩; clear HNO)
  clear t0
  go_wp2_with fail
  refine HNX.out.mono ?_
  rintro e w3 ⟨v, rfl, hN, hb3⟩
  have HC := Lib.hid (Tr.has_any w3 hN (by have := HLL.out; omega) fr)
  rw [HHA.out] at HC
  have HB3 := Lib.hid (HB2.out.trans (hb3.mono HB2.out.size))
  have HX3 := Lib.hid (HX2.out.next hb3)
  have HP3 := Lib.hid (HP2.out.next hb3)
  clear hN hb3 HNX HX2 HP2 HB2 HHA
  cases hb with
  | false =>
    go_wp2_with (go_at_call 40; refine HC.out.mono ?_; rintro e w3' ⟨rfl, rfl⟩; clear HC)
    go_ret2
    exact ⟨_, [], 11, x, rfl, Nds.nil _ _, HP3.out, Tn.ofBelow HBW.out HB3.out, .inl ⟨HHB.out.symm, rfl, rfl, rfl⟩⟩
  | true =>
  go_upto_region 5 with (go_at_call 40; refine HC.out.mono ?_; rintro e w3' ⟨rfl, rfl⟩; clear HC)
  have HRI := Lib.hid (lright_any l w3')
  obtain ⟨rb, hrb⟩ : ∃ rb, rb = rightL l := ⟨_, rfl⟩
  rw [← hrb] at HRI
  have HRB := Lib.hid hrb
  have hr0 := HX3.out.range
  clear hrb
  cases rb with
  | false =>
    go_wp2_with (first | (refine load_midg rfl 55 _ rfl _ _ rfl l.cells _ hr0 Try.underlying55 rfl (linfo l) ?_; (try simp only [Act.put, List.setIfInBounds_toArray, List.set_cons_zero, List.set_cons_succ])) | (go_at_call 41; refine HRI.out.mono ?_; rintro e w4 ⟨rfl, hb⟩; have HB4 := Lib.hid (HB3.out.trans (hb.mono HB3.out.size)); have HP4 := Lib.hid (HP3.out.next hb); clear hb hr0 HRI HX3 HP3 HB3))
    go_ret2
    exact ⟨_, [], 3, x, rfl, Nds.nil _ _, HP4.out, Tn.ofBelow HBW.out HB4.out, .inr (.inl ⟨HHB.out.symm, HRB.out.symm, rfl, rfl, rfl⟩)⟩
  | true =>
  go_upto_region 7 with (first | (refine load_midg rfl 55 _ rfl _ _ rfl l.cells _ hr0 Try.underlying55 rfl (linfo l) ?_; (try simp only [Act.put, List.setIfInBounds_toArray, List.set_cons_zero, List.set_cons_succ])) | (go_at_call 41; refine HRI.out.mono ?_; rintro e w4 ⟨rfl, hb⟩; have HB4 := Lib.hid (HB3.out.trans (hb.mono HB3.out.size)); have HP4 := Lib.hid (HP3.out.next hb); have HX4 := Lib.hid (HX3.out.next hb); clear hb hr0 HRI HX3 HP3 HB3))
  have hcc : w4.rangeAt d 1 x.t.cells ∧ w4.cell? ⟨d, 0, none⟩ = some (.int .i64 nd) ∧ w4.cell? ⟨gl, 3, none⟩ = some (.int .i64 l.ca) := ⟨HP4.out.tr, by rw [HN.out]; exact HP4.out.c0, by rw [HX4.out.cell, List.getElem?_toArray]; exact lab_3⟩
  have HCC := Lib.hid hcc
  have HTW := Lib.hid (toward_any w4.drew x.t (HP4.out.rows.next (Below.refl _ _).drew) HLE.out nd fr l.ca HC9.out)
  refine wp_region_tree (S := (fun w' => w'.rangeAt d 1 x.t.cells ∧ w'.cell? ⟨d, 0, none⟩ = some (.int .i64 nd) ∧ w'.cell? ⟨gl, 3, none⟩ = some (.int .i64 l.ca))) (.take 0 (.take 1 (.take 2 (.take 3 (.take 4 (.take 5 (.take 6 (.take 7 (.take 8 (.take 9 (.take 10 (.one 11 (.take 12 .nil))))))))))))) 9999 (by kernel_rfl) (by kernel_rfl) (by kernel_rfl) (by kernel_rfl) (by kernel_rfl) (fun _ _ d _ _ h => by cases d <;> exact h) hcc (fun hHeld => ?_); simp only [Tree.map, List.getElem?_toArray, List.getElem?_cons_zero, List.getElem?_cons_succ]
  (repeat (first | (refine wpTree.take (v := undef) (Or.inr ⟨by rfl, rfl⟩) ?_; simp only [Act.put, List.setIfInBounds_toArray, List.set_cons_zero, List.set_cons_succ]) | (refine wpTree.take (v := .agg x.t.cells.toArray) (yieldsIf_load_mid rfl 25 _ rfl _ _ rfl x.t.cells _ (fun _ hS => hS.1) Try.underlying25 rfl (tvinfo x.t)) ?_; simp only [Act.put, List.setIfInBounds_toArray, List.set_cons_zero, List.set_cons_succ]) | (refine wpTree.take (v := ?_) (Or.inl ⟨by rfl, ?_⟩) ?_; rotate_left; (focus (intro _ hS; (try dsimp only at hS); go_split_ands; (try subst hS); go_simp; (try (with_reducible rfl)); done)); simp only [Act.put, List.setIfInBounds_toArray, List.set_cons_zero, List.set_cons_succ])))
  clear hcc
  refine wpTree.one (fun K hK => ?_)
  go_simp
  go_at_call 42
  refine HTW.out.mono ?_
  rintro e w5 ⟨v5, L5, rfl, hN, hTw, hb⟩
  have hb5 : Below w4.heap.size w4 w5 := (Below.refl w4.heap.size w4).drew.trans hb
  have HB5 := Lib.hid (HB4.out.trans (hb5.mono HB4.out.size))
  have HN5 := Lib.hid (hN.le HB4.out.size)
  have HP5 := Lib.hid (HP4.out.next hb5)
  have HTP := Lib.hid hTw
  refine hK.out _ _ ⟨rng_next HCC.out.1 hb5, (hb5.cell (p := ⟨d, 0, none⟩) (World.block_lt_of_cell? _ _ HCC.out.2.1)).trans HCC.out.2.1, (hb5.cell (p := ⟨gl, 3, none⟩) (World.block_lt_of_cell? _ _ HCC.out.2.2)).trans HCC.out.2.2⟩ (fun _ => ?_)
  clear hK K hHeld hb5 hN hb hTw HTW HCC HX4 HP4 HB4
  (try simp only [Act.put, List.setIfInBounds_toArray, List.set_cons_zero, List.set_cons_succ])
  (repeat (first | (refine wpTree.take (v := undef) (Or.inr ⟨by rfl, rfl⟩) ?_; simp only [Act.put, List.setIfInBounds_toArray, List.set_cons_zero, List.set_cons_succ]) | (refine wpTree.take (v := ?_) (Or.inl ⟨by rfl, ?_⟩) ?_; rotate_left; (focus (intro _ hS; (try dsimp only at hS); go_split_ands; (try subst hS); go_simp; (try (with_reducible rfl)); done)); simp only [Act.put, List.setIfInBounds_toArray, List.set_cons_zero, List.set_cons_succ])))
  refine wpTree.done ?_
  have hjn : jnB x.t x.nd fr = true := HHB.out.symm
  obtain ⟨f, hf12, hfr⟩ : ∃ f : Nat, f < 12 ∧ fr = (f : Int) + 1 := by
    have := there_in (jn_there hjn).2
    exact ⟨(fr - 1).toNat, by omega, by omega⟩
  have HF := Lib.hid (show f < 12 ∧ (fr - 1).toNat = f from ⟨hf12, by omega⟩)
  obtain ⟨A5, c5, ev5⟩ := HN5.out.shape
  subst ev5
  go_upto_region 8 with fail
  have e1 : IntKind.i64.wrap (fr - 1) = (f : Nat) := by rw [IntKind.wrap_i64]; omega
  have e2 : (f : Int) < 12 := by omega
  have e3 : ¬ (f : Int) < 0 := by omega
  have hcc := HP5.out.cc (i := f * 2) (by omega)
  have hz := HP5.out.1.frozen (14 + f * 2)
  obtain ⟨c0, hc0⟩ : ∃ c0, c0 = x.c (f * 2) := ⟨_, rfl⟩
  have e4 : IntKind.u64.wrap ((c0 : Int) + 1) = ((c0 + 1 : Nat) : Int) := by rw [IntKind.wrap_u64]; have := HCL.out (f * 2); omega
  have HY1 := Lib.hid (show RP ((w5.setCell ⟨d, 14 + f * 2, none⟩ (.int .u64 ((c0 + 1 : Nat) : Int))).drew) B d (x.came f) by
    have := (HP5.out.put (i := f * 2) (by omega) (c0 + 1)).next (Below.refl _ _).drew
    rw [hc0] at this ⊢
    exact this)
  rw [← hc0] at hcc
  clear hjn hf12 hc0 hfr
  refine wp_region_treeL (S := (fun w' => w'.cell? ⟨d, 14 + f * 2, none⟩ = some (.int .u64 (c0 : Nat)))) (.take 0 (.take 1 (.take 2 (.take 3 (.take 4 (.take 5 (.take 6 (.take 7 (.take 8 (.take 9 (.take 10 (.take 11 (.take 12 (.last 13)))))))))))))) 13 (by kernel_rfl) (by kernel_rfl) (by kernel_rfl) (by kernel_rfl) (by kernel_rfl) (fun _ _ d _ _ h => by cases d <;> exact h) hcc (fun hHeld => ?_); simp only [Tree.map, List.getElem?_toArray, List.getElem?_cons_zero, List.getElem?_cons_succ]
  (repeat (first | (refine wpTree.take (v := undef) (Or.inr ⟨by rfl, rfl⟩) ?_; simp only [Act.put, List.setIfInBounds_toArray, List.set_cons_zero, List.set_cons_succ]) | (refine wpTree.take (v := ?_) (Or.inl ⟨by rfl, ?_⟩) ?_; rotate_left; (focus (intro _ hS; (try dsimp only at hS); go_split_ands; (try subst hS); go_simp; (try (with_reducible rfl)); done)); simp only [Act.put, List.setIfInBounds_toArray, List.set_cons_zero, List.set_cons_succ])))
  refine wpTree.last (fun K hK => ?_)
  go_simp
  refine hK.out _ _ ?_
  clear hK K hHeld hcc hz e1 e2 e3 e4
  (try simp only [Act.put, List.setIfInBounds_toArray, List.set_cons_zero, List.set_cons_succ])
  obtain ⟨ln, hln⟩ : ∃ ln, ln = L5.length := ⟨_, rfl⟩
  rw [← hln] at HN5
  (try rw [← hln])
  have HLN := Lib.hid (show ln = L5.length ∧ L5.length ≤ 12 ∧ L5.Nodup ∧ ∀ m ∈ L5, 1 ≤ m ∧ m ≤ 12 from ⟨hln, Nat.le_trans (nodup_len (m := thoseL fun _ => true) (HTP.out.1.imp fun h => Nat.ne_of_lt h) (fun m hm => those_mem.2 (by
    have := there_in (jn_there ((HTP.out.2 m).1 hm).2.1).2
    exact ⟨by omega, by omega, rfl⟩))) (those_le _ 12), HTP.out.1.imp fun h => Nat.ne_of_lt h, fun m hm => by
    have := there_in (jn_there ((HTP.out.2 m).1 hm).2.1).2
    omega⟩)
  clear hln
  have hN6 : Nds ((w5.setCell ⟨d, 14 + f * 2, none⟩ (.int .u64 ((c0 : Int) + 1))).drew) W.heap.size (.slice A5 ln c5) L5 :=
    ((Tn.cell (HP5.out.2.1) _ _).nds HN5.out HP5.out).next (Below.refl _ _).drew
  have hT6 : Tn B d W ((w5.setCell ⟨d, 14 + f * 2, none⟩ (.int .u64 ((c0 : Int) + 1))).drew) := ((Tn.ofBelow HBW.out HB5.out).trans (Tn.cell HP5.out.2.1 _ _)).trans ⟨(Below.refl B _).drew, fun _ _ _ => rfl⟩
  have hY6 : RP ((w5.setCell ⟨d, 14 + f * 2, none⟩ (.int .u64 ((c0 : Int) + 1))).drew) B d (x.came f) := HY1.out
  obtain ⟨w6, hw6⟩ : ∃ w6, w6 = (w5.setCell ⟨d, 14 + f * 2, none⟩ (.int .u64 ((c0 : Int) + 1))).drew := ⟨_, rfl⟩
  rw [← hw6] at hN6 hT6 hY6 ⊢
  have HN6 := Lib.hid hN6
  have HT6 := Lib.hid hT6
  have HY6 := Lib.hid hY6
  clear hN6 hT6 hY6 hw6 HN5 HB5 HP5 HY1
  obtain ⟨y1, hy1⟩ : ∃ y1, y1 = x.came f := ⟨_, rfl⟩
  have HCY := Lib.hid (show y1 = x.came f ∧ ∀ i, y1.c i ≤ 1001 from ⟨hy1, by rw [hy1]; exact put_le HCL.out (by have := HCL.out (f * 2); omega)⟩)
  rw [← hy1] at HY6
  clear hy1
  go_upto_region 10 with fail
  go_loopw [52] (fun i wr => ∃ k : Nat, k ≤ ln ∧ i = .int .i64 k ∧ RP wr B d (y1.went (L5.take k)) ∧ Nds wr W.heap.size (.slice A5 ln c5) L5 ∧ Tn B d W wr) (fun i _ => ln - (intOf i).toNat)
  case atStart => exact ⟨0, Nat.zero_le _, rfl, HY6.out, HN6.out, HT6.out⟩
  case round =>
    clear HY6 HN6 HT6
    obtain ⟨k, hk, rfl, hY, hN, hT⟩ := hrel
    have HY := Lib.hid hY
    have HNd := Lib.hid hN
    have HT := Lib.hid hT
    clear hY hN hT
    by_cases hkl : k < ln
    · have i1 : (k : Int) < (ln : Nat) := by omega
      have i2 : ¬ (k : Int) < 0 := by omega
      obtain ⟨kk, hkk⟩ : ∃ kk, kk = k + 1 := ⟨_, rfl⟩
      have HKK := Lib.hid (show kk = k + 1 ∧ k < ln from ⟨hkk, hkl⟩)
      have HWK := Lib.hid (Nd.wrap_n k kk hkk (by have := HLN.out; omega))
      obtain ⟨m, hm⟩ : ∃ m, L5[k]? = some m := ⟨_, List.getElem?_eq_getElem (by rw [← HLN.out.1]; exact hkl)⟩
      obtain ⟨g1, o1, cc1, ev1, _, hc1⟩ := HNd.out.at_ hm
      simp only [Value.slice.injEq] at ev1
      obtain ⟨rfl, -, rfl⟩ := ev1
      have hmm := HLN.out.2.2.2 m (List.mem_of_getElem? hm)
      obtain ⟨q, hq⟩ : ∃ q, q = m - 1 := ⟨_, rfl⟩
      have HQ := Lib.hid (show q = m - 1 ∧ q < 12 ∧ 1 ≤ m from ⟨hq, by omega, hmm.1⟩)
      have HMK := Lib.hid hm
      obtain ⟨y, hy⟩ : ∃ y, y = y1.went (L5.take k) := ⟨_, rfl⟩
      have HYY := Lib.hid (show y = y1.went (L5.take k) ∧ ∀ i, y.c i ≤ 1100 from ⟨hy, fun i => by
        rw [hy]
        have := went_le (L5.take k) y1 1001 HCY.out.2 i
        rw [List.length_take] at this
        have := HLN.out
        omega⟩)
      rw [← hy] at HY
      clear hk hkl hkk hm hmm hq hy
      go_upto_region 12 with fail
      clear i1 i2 hc1
      have e1 : IntKind.i64.wrap ((m : Int) - 1) = (q : Nat) := by rw [IntKind.wrap_i64]; have := HQ.out; omega
      have e2 : (q : Int) < 12 := by have := HQ.out; omega
      have e3 : ¬ (q : Int) < 0 := by omega
      have hcc := HY.out.cc (i := q * 2 + 1) (by have := HQ.out; omega)
      have hz := HY.out.1.frozen (14 + q * 2 + 1)
      rw [← Nat.add_assoc] at hcc
      obtain ⟨c1, hc1⟩ : ∃ c1, c1 = y.c (q * 2 + 1) := ⟨_, rfl⟩
      have e4 : IntKind.u64.wrap ((c1 : Int) + 1) = ((c1 + 1 : Nat) : Int) := by rw [IntKind.wrap_u64]; have := HYY.out.2 (q * 2 + 1); omega
      have HY1 := Lib.hid (show RP ((wr.setCell ⟨d, 14 + q * 2 + 1, none⟩ (.int .u64 ((c1 : Int) + 1))).drew) B d (y.bump m) by
        have := (HY.out.put (i := q * 2 + 1) (by have := HQ.out; omega) (c1 + 1)).next (Below.refl _ _).drew
        rw [← Nat.add_assoc] at this
        unfold R.bump
        rw [← HQ.out.1, ← hc1]
        exact this)
      rw [← hc1] at hcc
      clear hc1
      refine wp_region_treeL (S := (fun w' => w'.cell? ⟨d, 14 + q * 2 + 1, none⟩ = some (.int .u64 (c1 : Nat)))) (.take 0 (.take 1 (.take 2 (.take 3 (.take 4 (.take 5 (.take 6 (.take 7 (.take 8 (.take 9 (.take 10 (.take 11 (.take 12 (.last 13)))))))))))))) 13 (by kernel_rfl) (by kernel_rfl) (by kernel_rfl) (by kernel_rfl) (by kernel_rfl) (fun _ _ d _ _ h => by cases d <;> exact h) hcc (fun hHeld => ?_); simp only [Tree.map, List.getElem?_toArray, List.getElem?_cons_zero, List.getElem?_cons_succ]
      (repeat (first | (refine wpTree.take (v := undef) (Or.inr ⟨by rfl, rfl⟩) ?_; simp only [Act.put, List.setIfInBounds_toArray, List.set_cons_zero, List.set_cons_succ]) | (refine wpTree.take (v := ?_) (Or.inl ⟨by rfl, ?_⟩) ?_; rotate_left; (focus (intro _ hS; (try dsimp only at hS); go_split_ands; (try subst hS); go_simp; (try (with_reducible rfl)); done)); simp only [Act.put, List.setIfInBounds_toArray, List.set_cons_zero, List.set_cons_succ])))
      refine wpTree.last (fun K hK => ?_)
      go_simp
      refine hK.out _ _ ?_
      clear hK K hHeld hcc hz e1 e2 e3 e4
      (try simp only [Act.put, List.setIfInBounds_toArray, List.set_cons_zero, List.set_cons_succ])
      have hN6 : Nds ((wr.setCell ⟨d, 14 + q * 2 + 1, none⟩ (.int .u64 ((c1 : Int) + 1))).drew) W.heap.size (.slice (some ⟨g1, o1, none⟩) ln c5) L5 :=
        ((Tn.cell (HY.out.2.1) _ _).nds HNd.out HY.out).next (Below.refl _ _).drew
      have hT6 : Tn B d W ((wr.setCell ⟨d, 14 + q * 2 + 1, none⟩ (.int .u64 ((c1 : Int) + 1))).drew) := (HT.out.trans (Tn.cell HY.out.2.1 _ _)).trans ⟨(Below.refl B _).drew, fun _ _ _ => rfl⟩
      obtain ⟨w7, hw7⟩ : ∃ w7, w7 = (wr.setCell ⟨d, 14 + q * 2 + 1, none⟩ (.int .u64 ((c1 : Int) + 1))).drew := ⟨_, rfl⟩
      rw [← hw7] at hN6 hT6 HY1 ⊢
      have HN7 := Lib.hid hN6
      have HT7 := Lib.hid hT6
      clear hN6 hT6 hw7 HY HNd HT
      go_wp2_with fail
      (try rw [HWK.out])
      go_roundw
      case rel => exact ⟨kk, by have := HKK.out; omega, rfl, by rw [HKK.out.1, List.take_add_one, HMK.out]; show RP w7 B d (y1.went (L5.take k ++ [m])); rw [went_snoc, ← HYY.out.1]; exact HY1.out, HN7.out, HT7.out⟩
      case measure => have := HKK.out; simp [intOf]; omega
    · have i1 : ¬ (k : Int) < (ln : Nat) := by omega
      have HKE := Lib.hid (show L5.take k = L5 from List.take_of_length_le (by have := HLN.out; omega))
      clear hk hkl
      go_wp2_with fail
      go_ret2
      exact ⟨_, L5, 0, (x.came f).went L5, rfl, by rw [HLN.out.1] at HNd; rw [HLN.out.1]; exact HNd.out, by have h1 := HY.out; rw [HKE.out, HCY.out.1] at h1; exact h1, HT.out, .inr (.inr ⟨HHB.out.symm, HRB.out.symm, rfl, by rw [← HN.out]; exact HTP.out, by rw [HF.out.2]⟩)⟩
end Rl
end Go.Proofs.Ytohnhokddbeheaa

/-
relay: RelaySums, walked.
-/
import Derived.Test.YtohnhokddbeheaaTr16
import Derived.Test.YtohnhokddbeheaaRl8
namespace Go.Proofs.Ytohnhokddbeheaa
open Go.RowKit
set_option linter.unusedSimpArgs false
set_option linter.unusedVariables false
namespace Rl
open Tr
theorem cm_row {W : World} {A : Option Addr} {l : List Cm} {j : Nat} {o : Cm} (hr : RowsOf Cm.cells 18 W A l) (ho : l[j]? = some o) :
    ∃ b of, A = some ⟨b, of, none⟩ ∧ ∀ w, Below W.heap.size W w → w.cell? ⟨b, of + j * 18, none⟩ = some (.int .i64 o.fr) ∧ w.rangeAt b (of + j * 18 + 1) o.l.cells := by
  have hj := (List.getElem?_eq_some_iff.1 ho).1
  rcases hr with rfl | ⟨b, of, rfl, hb, hr⟩
  · simp at hj
  · refine ⟨b, of, rfl, fun w hw => ?_⟩
    have h1 := hr j hj
    rw [(List.getElem?_eq_some_iff.1 ho).2] at h1
    refine ⟨?_, fun i u hu => ?_⟩
    · have := h1 0 (.int .i64 o.fr) rfl
      exact (hw.cell (p := ⟨b, of + j * 18, none⟩) hb).trans this
    · have := h1 (1 + i) u (by rw [Nat.add_comm]; exact hu)
      rw [← Nat.add_assoc] at this
      exact (hw.cell (p := ⟨b, of + j * 18 + 1 + i, none⟩) hb).trans this
set_option maxRecDepth 20000 in
set_option maxHeartbeats 16000000 in
theorem sums_walk (W : World) (t : Tv) (hr : RowsOf ec 2 W t.A t.es) (node : Int) (A : Option Addr) (n c : Nat) (l : List Cm) (hl : l.length = n) (hrl : RowsOf Cm.cells 18 W A l) (hok : ∀ o ∈ l, LabOk o.l) :
    Calls Try.prog 4 #[.agg t.cells.toArray, .int .i64 node, .slice A n c] W fun e W' => e = .returned (.bool true) ∧ Below W.heap.size W W' := by
  have HR := Lib.hid hr
  have HL := Lib.hid hl
  have HRL := Lib.hid hrl
  have HOK := Lib.hid hok
  have bb := (Below.refl W.heap.size W).alloc (Nat.le_refl _) (.cells t.cells.toArray 25)
  have hx : Blk (W.alloc (.cells t.cells.toArray 25)) W.heap.size 25 t.cells.toArray := Blk.new W _ _
  obtain ⟨w2, hw2⟩ : ∃ w2, w2 = W.alloc (.cells t.cells.toArray 25) := ⟨_, rfl⟩
  rw [← hw2] at bb hx
  have HB2 := Lib.hid bb
  have HX2 := Lib.hid hx
  have hr0 : w2.rangeAt W.heap.size 0 t.cells := hx.range
  have HG := Lib.hid (Tr.great_any w2 t)
  clear bb hx hr hl hrl hok
  go_enter Try.func4, Try.ntmps4
  go_upto_region 1 with fail
  rw [← hw2]
  clear hw2
  obtain ⟨gx, hgx⟩ : ∃ gx, gx = W.heap.size := ⟨_, rfl⟩
  have HGX := Lib.hid (show gx < w2.heap.size by rw [hgx]; have := HX2.out.lt; exact this)
  rw [← hgx] at HX2 hr0
  (try rw [← hgx])
  clear hgx
  cases hG : decide (20 < t.es.length) with
  | true =>
    rw [hG] at HG
    clear hG
    go_upto_region 2 with (first | (refine load_midg rfl 25 _ rfl _ _ rfl t.cells _ hr0 Try.underlying25 rfl (tvinfo t) ?_; (try simp only [Act.put, List.setIfInBounds_toArray, List.set_cons_zero, List.set_cons_succ])) | (go_at_call 5; refine HG.out.mono ?_; rintro e w3 ⟨rfl, hb⟩; have HB3 := Lib.hid (HB2.out.trans (hb.mono HB2.out.size)); clear hb hr0 HG HX2 HB2))
    go_wp2_with fail
    refine (Rl.alive_any w3).mono ?_
    rintro e w4 ⟨rfl, hb⟩
    have HB4 := Lib.hid (HB3.out.trans (hb.mono HB3.out.size))
    clear hb
    go_wp2_with fail
    go_ret
    exact ⟨rfl, HB4.out⟩
  | false =>
  rw [hG] at HG
  have HLE := Lib.hid (show t.es.length ≤ 100000 by have := of_decide_eq_false hG; omega)
  clear hG
  go_upto_region 3 with (first | (refine load_midg rfl 25 _ rfl _ _ rfl t.cells _ hr0 Try.underlying25 rfl (tvinfo t) ?_; (try simp only [Act.put, List.setIfInBounds_toArray, List.set_cons_zero, List.set_cons_succ])) | (go_at_call 5; refine HG.out.mono ?_; rintro e w3 ⟨rfl, hb⟩; have HB3 := Lib.hid (HB2.out.trans (hb.mono HB2.out.size)); have HX3 := Lib.hid (HX2.out.next hb); have hr0 := HX3.out.range; clear hb HG HX2 HB2))
  have HNW := Lib.hid (Rl.new_any w3 t (HR.out.next HB3.out) HLE.out node)
  go_wp2_with (refine load_midg rfl 25 _ rfl _ _ rfl t.cells _ hr0 Try.underlying25 rfl (tvinfo t) ?_; (try simp only [Act.put, List.setIfInBounds_toArray, List.set_cons_zero, List.set_cons_succ]))
  refine HNW.out.mono ?_
  rintro e w4 ⟨b, hP, hb, hc⟩
  have HB4 := Lib.hid (HB3.out.trans (hb.mono HB3.out.size))
  have HX4 := Lib.hid (HX3.out.next hb)
  have HB3W := Lib.hid HB3.out.size
  clear hP hb hr0 HNW HX3 HB3
  rcases hc with ⟨-, rfl⟩ | ⟨-, -, rfl⟩ | ⟨-, hk3, A', c', d, rfl, hRP⟩
  · go_wp2_with fail
    refine (Rl.alive_any w4).mono ?_
    rintro e w5 ⟨rfl, hb⟩
    have HB5 := Lib.hid (HB4.out.trans (hb.mono HB4.out.size))
    clear hb
    go_wp2_with fail
    go_ret
    exact ⟨rfl, HB5.out⟩
  · go_wp2_with fail
    refine (Rl.alive_any w4).mono ?_
    rintro e w5 ⟨rfl, hb⟩
    have HB5 := Lib.hid (HB4.out.trans (hb.mono HB4.out.size))
    clear hb
    go_wp2_with fail
    go_ret
    exact ⟨rfl, HB5.out⟩
  · have HND := Lib.hid (show node ≠ 0 by
      have := there_in (kind_there (.inr (.inr hk3)))
      omega)
    have HP4 := Lib.hid hRP
    have HNX := Lib.hid (Tr.next_any w4 t (HR.out.next HB4.out) (by have := HLE.out; omega) node)
    have hr0 := HX4.out.range
    clear hk3 hRP
    obtain ⟨D, hD⟩ : ∃ D, D = nextL t node := ⟨_, rfl⟩
    have HDE := Lib.hid (show D = nextL t node ∧ nextL (Tv.mk t.k t.es A' c') node = D from ⟨hD, by rw [hD]; rfl⟩)
    have HDD := Lib.hid (show D.Nodup ∧ D.length ≤ 12 ∧ ∀ n ∈ D, 1 ≤ n ∧ n ≤ 12 by rw [hD]; exact next_D t node)
    replace HNX := Lib.hid (show Calls Try.prog 22 #[.agg t.cells.toArray, .int .i64 node] w4 fun e W' => ∃ v, e = .returned v ∧ Nds W' w4.heap.size v D ∧ Below w4.heap.size w4 W' by rw [hD]; exact HNX.out)
    clear hD
    obtain ⟨ln, hln⟩ : ∃ ln, ln = D.length := ⟨_, rfl⟩
    have HLN := Lib.hid hln
    go_upto_region 7 with (first | (refine load_midg rfl 25 _ rfl _ _ rfl t.cells _ hr0 Try.underlying25 rfl (tvinfo t) ?_; (try simp only [Act.put, List.setIfInBounds_toArray, List.set_cons_zero, List.set_cons_succ])) | (go_at_call 22; refine HNX.out.mono ?_; rintro e w5 ⟨v, rfl, hN, hb⟩; have HN5 := Lib.hid hN; have HP5 := Lib.hid (HP4.out.next hb); have HB5 := Lib.hid (HB4.out.trans (hb.mono HB4.out.size)); clear hN hb hr0 HNX HP4 HB4 HX4))
    obtain ⟨AD, cD, ev⟩ := HN5.out.shape
    subst ev
    rw [← hln] at HN5
    (try rw [← hln])
    clear hln
    obtain ⟨B, hB⟩ : ∃ B, B = w3.heap.size := ⟨_, rfl⟩
    rw [← hB] at HP5 HB3W
    clear hB
    obtain ⟨BN, hBN⟩ : ∃ BN, BN = w4.heap.size := ⟨_, rfl⟩
    rw [← hBN] at HN5
    clear hBN
    go_upto_region 8 with fail
    go_loopw [10] (fun i wr => ∃ j : Nat, j ≤ 60 ∧ i = .int .i64 j ∧ ∃ x, RP wr B d x ∧ (x.t = ⟨t.k, t.es, A', c'⟩ ∧ x.nd = node) ∧ Inv x D j ∧ Nds wr BN (.slice AD ln cD) D ∧ Below W.heap.size W wr) (fun i _ => 60 - (intOf i).toNat)
    case atStart => exact ⟨0, by omega, rfl, _, HP5.out, ⟨rfl, rfl⟩, inv_zero _ _ _, HN5.out, HB5.out⟩
    case round =>
      clear HP5 HN5 HB5
      obtain ⟨j, hj, rfl, x, hRP, hxt, hI, hN, hb⟩ := hrel
      have HP := Lib.hid hRP
      have HXT := Lib.hid hxt
      have HI := Lib.hid hI
      have HN := Lib.hid hN
      have HB := Lib.hid hb
      clear hRP hxt hI hN hb
      by_cases hjl : j < n ∧ j < 60
      · obtain ⟨o, ho⟩ : ∃ o, l[j]? = some o := ⟨_, List.getElem?_eq_getElem (by rw [HL.out]; exact hjl.1)⟩
        have i1 : (j : Int) < (n : Nat) := by omega
        have i2 : (j : Int) < 60 := by omega
        have i3 : ¬ (j : Int) < 0 := by omega
        obtain ⟨b, of, rfl, hrow⟩ := cm_row HRL.out ho
        have HRO := Lib.hid hrow
        have HCA := Lib.hid (HOK.out o (List.mem_of_getElem? ho)).ca2
        have HJL := Lib.hid hjl
        have HW := Lib.hid (Nd.wrap_n j (j + 1) rfl (by omega))
        have hcc := hrow wr HB.out
        clear ho hjl hj hrow
        go_upto_region 10 with fail
        have hdr := (Below.refl wr.heap.size wr).drew
        have HH := Lib.hid (hear_any wr.drew (HP.out.next hdr) (by rw [HXT.out.2]; exact HND.out) (by rw [HXT.out.1]; have := HLE.out; show t.es.length ≤ 1000000; omega) (fun i => by have := HI.out.le i; have := HJL.out; omega) o.fr o.l HCA.out)
        have HPD := Lib.hid (HP.out.next hdr)
        have HNDr := Lib.hid (HN.out.next hdr)
        clear hdr
        refine wp_region_tree (S := (fun w' => w'.cell? ⟨b, of + j * 18, none⟩ = some (.int .i64 o.fr) ∧ w'.rangeAt b (of + j * 18 + 1) o.l.cells)) (.take 0 (.take 1 (.take 2 (.take 3 (.take 4 (.take 5 (.take 6 (.take 7 (.take 8 (.take 9 (.take 10 (.one 11 (.take 12 (.take 13 (.take 14 (.take 15 (.take 16 .nil))))))))))))))))) 9999 (by kernel_rfl) (by kernel_rfl) (by kernel_rfl) (by kernel_rfl) (by kernel_rfl) (fun _ _ d _ _ h => by cases d <;> exact h) hcc (fun hHeld => ?_); simp only [Tree.map, List.getElem?_toArray, List.getElem?_cons_zero, List.getElem?_cons_succ]
        (repeat (first | (refine wpTree.take (v := undef) (Or.inr ⟨by rfl, rfl⟩) ?_; simp only [Act.put, List.setIfInBounds_toArray, List.set_cons_zero, List.set_cons_succ]) | (refine wpTree.take (v := .agg o.l.cells.toArray) (yieldsIf_load_mid rfl 55 _ rfl _ _ rfl o.l.cells _ (fun _ hS => hS.2) Try.underlying55 rfl (linfo o.l)) ?_; simp only [Act.put, List.setIfInBounds_toArray, List.set_cons_zero, List.set_cons_succ]) | (refine wpTree.take (v := ?_) (Or.inl ⟨by rfl, ?_⟩) ?_; rotate_left; (focus (intro _ hS; (try dsimp only at hS); go_split_ands; (try subst hS); go_simp; (try (with_reducible rfl)); done)); simp only [Act.put, List.setIfInBounds_toArray, List.set_cons_zero, List.set_cons_succ])))
        clear hcc i1 i2
        refine wpTree.one (fun K hK => ?_)
        go_simp
        go_at_call 15
        refine HH.out.mono ?_
        rintro e w6 ⟨v, L, er, y, rfl, hN6, hY, hT, hH⟩
        have HB6 := Lib.hid (HB.out.trans (((Below.refl B wr).drew.trans hT.1).mono HB3W.out))
        have HST := Lib.hid (show Inv y D (j + 1) ∧ (y.t = ⟨t.k, t.es, A', c'⟩ ∧ y.nd = node) ∧ L.Pairwise (· < ·) ∧ L.length ≤ 12 ∧ ∀ n ∈ L, ((n : Nat) : Int) ≠ o.fr ∧ 1 ≤ n ∧ n ≤ 12 by
          have e1 : nextL x.t x.nd = D := by rw [HXT.out.1, HXT.out.2]; exact HDE.out.2
          obtain ⟨h1, h2, h3, h4⟩ := inv_step (x := x) (by rw [e1]; exact HI.out) hH
          rw [e1] at h1
          exact ⟨h1, ⟨h2.trans HXT.out.1, h3.trans HXT.out.2⟩, h4⟩)
        have HP6 := Lib.hid hY
        have HD6 := Lib.hid (Tn.nds hT HNDr.out HPD.out)
        obtain ⟨B1, hB1⟩ : ∃ B1, B1 = wr.drew.heap.size := ⟨_, rfl⟩
        rw [← hB1] at hN6
        have HN6 := Lib.hid hN6
        refine hK.out _ _ (HRO.out _ HB6.out) (fun _ => ?_)
        clear hK K hHeld hN6 hY hT hH HH HPD HNDr HP HN HB hB1 HI HXT
        (try simp only [Act.put, List.setIfInBounds_toArray, List.set_cons_zero, List.set_cons_succ])
        (repeat (first | (refine wpTree.take (v := undef) (Or.inr ⟨by rfl, rfl⟩) ?_; simp only [Act.put, List.setIfInBounds_toArray, List.set_cons_zero, List.set_cons_succ]) | (refine wpTree.take (v := ?_) (Or.inl ⟨by rfl, ?_⟩) ?_; rotate_left; (focus (intro _ hS; (try dsimp only at hS); go_split_ands; (try subst hS); go_simp; (try (with_reducible rfl)); done)); simp only [Act.put, List.setIfInBounds_toArray, List.set_cons_zero, List.set_cons_succ])))
        refine wpTree.done ?_
        obtain ⟨A1, c1, ev1⟩ := HN6.out.shape
        subst ev1
        obtain ⟨l1, hl1⟩ : ∃ l1, l1 = L.length := ⟨_, rfl⟩
        rw [← hl1] at HN6
        (try rw [← hl1])
        have HL1 := Lib.hid hl1
        clear hl1
        go_upto_region 12 with fail
        go_loopw [13] (fun i wy => ∃ k : Nat, k ≤ l1 ∧ i = .int .i64 k ∧ RP wy B d y ∧ Nds wy BN (.slice AD ln cD) D ∧ Nds wy B1 (.slice A1 l1 c1) L ∧ Below W.heap.size W wy) (fun i _ => l1 - (intOf i).toNat)
        case atStart => exact ⟨0, Nat.zero_le _, rfl, HP6.out, HD6.out, HN6.out, HB6.out⟩
        case round =>
          clear HP6 HD6 HN6 HB6
          obtain ⟨k, hk, rfl, hY, hD, hN, hb⟩ := hrel
          have HY := Lib.hid hY
          have HD := Lib.hid hD
          have HN := Lib.hid hN
          have HB := Lib.hid hb
          clear hY hD hN hb
          by_cases hkl : k < l1
          · obtain ⟨m, hm⟩ : ∃ m, L[k]? = some m := ⟨_, List.getElem?_eq_getElem (by rw [← HL1.out]; exact hkl)⟩
            have t1 : (((m : Nat) : Int) == o.fr) = false := by simpa using (HST.out.2.2.2.2 m (List.mem_of_getElem? hm)).1
            have i1 : (k : Int) < (l1 : Nat) := by omega
            have i4 : ¬ (k : Int) < 0 := by omega
            obtain ⟨g1, o1, cc1, ev1, _, hc1⟩ := HN.out.at_ hm
            simp only [Value.slice.injEq] at ev1
            obtain ⟨rfl, -, rfl⟩ := ev1
            have hc0 := (HRO.out wr HB.out).1
            obtain ⟨kk, hkk⟩ : ∃ kk, kk = k + 1 := ⟨_, rfl⟩
            have HKK := Lib.hid (show kk = k + 1 ∧ k < l1 from ⟨hkk, hkl⟩)
            have HWK := Lib.hid (Nd.wrap_n k kk hkk (by have := HL1.out; have := HST.out.2.2.2.1; omega))
            have hdr := (Below.refl wr.heap.size wr).drew
            have HYd := Lib.hid (HY.out.next hdr)
            have HDd := Lib.hid (HD.out.next hdr)
            have HNd := Lib.hid (HN.out.next hdr)
            have HBd := Lib.hid HB.out.drew
            clear hdr hkk
            by_cases hk0 : k = 0
            · have i5 : ¬ (0 : Int) < (k : Nat) := by omega
              have i5n : ¬ 0 < k := by omega
              have i5d : decide (0 < k) = false := by simp [hk0]
              have hcc : wr.cell? ⟨g1, o1 + k, none⟩ = some (.int .i64 (m : Nat)) ∧ wr.cell? ⟨b, of + j * 18, none⟩ = some (.int .i64 o.fr) := ⟨hc1, hc0⟩
              have HC := Lib.hid (show ∀ j : Int, True from fun _ => trivial)
              have i2 : (j : Int) < (n : Nat) := by have := HJL.out; omega
              clear hk hkl hk0 hc1 hc0 hm
              go_upto_region 14 with fail
              refine wp_region_tree (S := (fun w' => w'.cell? ⟨g1, o1 + k, none⟩ = some (.int .i64 (m : Nat)) ∧ w'.cell? ⟨b, of + j * 18, none⟩ = some (.int .i64 o.fr))) (.take 0 (.take 1 (.take 2 (.take 3 (.take 4 (.take 5 (.take 6 (.take 7 (.take 8 (.take 9 (.take 10 (.take 11 (.take 12 (.take 13 (.take 14 (.take 15 (.take 16 (.take 17 (.take 18 (.take 19 (.take 20 (.take 21 (.take 22 (.take 23 (.take 24 (.take 25 .nil)))))))))))))))))))))))))) 9999 (by kernel_rfl) (by kernel_rfl) (by kernel_rfl) (by kernel_rfl) (by kernel_rfl) (fun _ _ d _ _ h => by cases d <;> exact h) hcc (fun hHeld => ?_); simp only [Tree.map, List.getElem?_toArray, List.getElem?_cons_zero, List.getElem?_cons_succ]
              (repeat (first | (refine wpTree.take (v := undef) (Or.inr ⟨by rfl, rfl⟩) ?_; simp only [Act.put, List.setIfInBounds_toArray, List.set_cons_zero, List.set_cons_succ]) | (refine wpTree.take (v := ?_) (Or.inl ⟨by rfl, ?_⟩) ?_; rotate_left; (focus (intro _ hS; (try dsimp only at hS); go_split_ands; (try subst hS); go_simp; (try (with_reducible rfl)); done)); simp only [Act.put, List.setIfInBounds_toArray, List.set_cons_zero, List.set_cons_succ])))
              refine wpTree.done ?_
              clear hcc i1 i2 i4 i5 i5n i5d t1 HY HD HN HB
              go_wp2_with fail
              (try rw [HWK.out])
              go_roundw
              case rel => exact ⟨kk, by have := HKK.out; omega, rfl, HYd.out, HDd.out, HNd.out, HBd.out⟩
              case measure => have := HKK.out; simp [intOf]; omega
            · obtain ⟨q, hq⟩ : ∃ q, k = q + 1 := ⟨k - 1, by omega⟩
              obtain ⟨m', hm'⟩ : ∃ m', L[q]? = some m' := ⟨_, List.getElem?_eq_getElem (by rw [← HL1.out]; omega)⟩
              obtain ⟨g2, o2, cc2, ev2, _, hc2⟩ := HN.out.at_ hm'
              simp only [Value.slice.injEq, Option.some.injEq, Addr.mk.injEq, and_true, true_and] at ev2
              obtain ⟨⟨rfl, rfl⟩, -⟩ := ev2
              have hlt : m' < m := by
                have h1 := List.pairwise_iff_getElem.1 HST.out.2.2.1 q k (by rw [← HL1.out]; omega) (by rw [← HL1.out]; omega) (by omega)
                rw [(List.getElem?_eq_some_iff.1 hm).2, (List.getElem?_eq_some_iff.1 hm').2] at h1
                exact h1
              have i5 : (0 : Int) < (k : Nat) := by omega
              have i5n : 0 < k := by omega
              have i5d : decide (0 < k) = true := decide_eq_true i5n
              have i6 : ¬ ((m : Nat) : Int) ≤ ((m' : Nat) : Int) := by omega
              have i7 : (q : Int) < (l1 : Nat) := by omega
              have i8 : ¬ (q : Int) < 0 := by omega
              have e1 : IntKind.i64.wrap ((k : Int) - 1) = (q : Nat) := by rw [IntKind.wrap_i64]; have := HL1.out; have := HST.out.2.2.2.1; omega
              have hcc : wr.cell? ⟨g1, o1 + k, none⟩ = some (.int .i64 (m : Nat)) ∧ wr.cell? ⟨b, of + j * 18, none⟩ = some (.int .i64 o.fr) ∧ wr.cell? ⟨g1, o1 + q, none⟩ = some (.int .i64 (m' : Nat)) := ⟨hc1, hc0, hc2⟩
              have i2 : (j : Int) < (n : Nat) := by have := HJL.out; omega
              clear hk hkl hk0 hc1 hc0 hc2 hm hm' hq hlt
              go_upto_region 14 with fail
              refine wp_region_tree (S := (fun w' => w'.cell? ⟨g1, o1 + k, none⟩ = some (.int .i64 (m : Nat)) ∧ w'.cell? ⟨b, of + j * 18, none⟩ = some (.int .i64 o.fr) ∧ w'.cell? ⟨g1, o1 + q, none⟩ = some (.int .i64 (m' : Nat)))) (.take 0 (.take 1 (.take 2 (.take 3 (.take 4 (.take 5 (.take 6 (.take 7 (.take 8 (.take 9 (.take 10 (.take 11 (.take 12 (.take 13 (.take 14 (.take 15 (.take 16 (.take 17 (.take 18 (.take 19 (.take 20 (.take 21 (.take 22 (.take 23 (.take 24 (.take 25 .nil)))))))))))))))))))))))))) 9999 (by kernel_rfl) (by kernel_rfl) (by kernel_rfl) (by kernel_rfl) (by kernel_rfl) (fun _ _ d _ _ h => by cases d <;> exact h) hcc (fun hHeld => ?_); simp only [Tree.map, List.getElem?_toArray, List.getElem?_cons_zero, List.getElem?_cons_succ]
              (repeat (first | (refine wpTree.take (v := undef) (Or.inr ⟨by rfl, rfl⟩) ?_; simp only [Act.put, List.setIfInBounds_toArray, List.set_cons_zero, List.set_cons_succ]) | (refine wpTree.take (v := ?_) (Or.inl ⟨by rfl, ?_⟩) ?_; rotate_left; (focus (intro _ hS; (try dsimp only at hS); go_split_ands; (try subst hS); go_simp; (try (with_reducible rfl)); done)); simp only [Act.put, List.setIfInBounds_toArray, List.set_cons_zero, List.set_cons_succ])))
              refine wpTree.done ?_
              clear hcc i1 i2 i4 i5 i5n i5d i6 i7 i8 e1 t1 HY HD HN HB
              go_wp2_with fail
              (try rw [HWK.out])
              go_roundw
              case rel => exact ⟨kk, by have := HKK.out; omega, rfl, HYd.out, HDd.out, HNd.out, HBd.out⟩
              case measure => have := HKK.out; simp [intOf]; omega
          · have i1 : ¬ (k : Int) < (l1 : Nat) := by omega
            clear hk hkl
            go_wp2_with fail
            (try rw [HW.out])
            go_roundw
            case rel => exact ⟨j + 1, by have := HJL.out; omega, by first | rfl | simp, y, HY.out, HST.out.2.1, HST.out.1, HD.out, HB.out⟩
            case measure => have := HJL.out; simp [intOf]; omega
      · have hor : ¬ (j : Int) < (n : Nat) ∨ ((j : Int) < (n : Nat) ∧ ¬ (j : Int) < 60) := by omega
        have HMX := Lib.hid (show ∀ i, x.c i ≤ 780 from fun i => by have := HI.out.le i; omega)
        clear hjl hj
        rcases hor with i1 | ⟨i1, i2⟩
        all_goals
          go_upto_region 18 with fail
          (try clear i1)
          (try clear i2)
          go_loopw [14, 15] (fun a i wy => ∃ k : Nat, k ≤ ln ∧ a = .int .u64 (camS x (D.take k) : Nat) ∧ i = .int .i64 k ∧ RP wy B d x ∧ Nds wy BN (.slice AD ln cD) D ∧ Below W.heap.size W wy) (fun _ i _ => ln - (intOf i).toNat)
          case atStart => exact ⟨0, Nat.zero_le _, by simp [camS], rfl, HP.out, HN.out, HB.out⟩
          case round =>
            clear HP HN HB
            obtain ⟨k, hk, rfl, rfl, hP, hN, hb⟩ := hrel
            have HP := Lib.hid hP
            have HN := Lib.hid hN
            have HB := Lib.hid hb
            clear hP hN hb
            obtain ⟨sk, hsk⟩ : ∃ sk, sk = camS x (D.take k) := ⟨_, rfl⟩
            rw [← hsk]
            have HSK := Lib.hid (show sk = camS x (D.take k) ∧ sk ≤ 9360 from ⟨hsk, by
              rw [hsk]
              have h1 := cam_le HMX.out (D.take k)
              rw [List.length_take] at h1
              have h2 := HDD.out.2.1
              have h3 : 780 * min k D.length ≤ 780 * 12 := Nat.mul_le_mul_left _ (by omega)
              omega⟩)
            clear hsk
            by_cases hkl : k < ln
            · skip
              obtain ⟨kk, hkk⟩ : ∃ kk, kk = k + 1 := ⟨_, rfl⟩
              have HKK := Lib.hid (show kk = k + 1 ∧ k < ln from ⟨hkk, hkl⟩)
              have HWK := Lib.hid (Nd.wrap_n k kk hkk (by have := HLN.out; have := HDD.out.2.1; omega))
              obtain ⟨m, hm⟩ : ∃ m, D[k]? = some m := ⟨_, List.getElem?_eq_getElem (by rw [← HLN.out]; exact hkl)⟩
              have i1 : (k : Int) < (ln : Nat) := by omega
              have i4 : ¬ (k : Int) < 0 := by omega
              obtain ⟨g1, o1, cc1, ev1, _, hc1⟩ := HN.out.at_ hm
              simp only [Value.slice.injEq] at ev1
              obtain ⟨rfl, -, rfl⟩ := ev1
              have hmm := HDD.out.2.2 m (List.mem_of_getElem? hm)
              obtain ⟨q, hq⟩ : ∃ q, m = q + 1 := ⟨m - 1, by omega⟩
              have hct := Rl.count_any wr HP.out (k := q) (by omega)
              rw [show ((q : Nat) : Int) + 1 = ((m : Nat) : Int) by omega] at hct
              obtain ⟨ca, hca⟩ : ∃ ca, ca = x.c (q * 2) := ⟨_, rfl⟩
              obtain ⟨we, hwe⟩ : ∃ we, we = x.c (q * 2 + 1) := ⟨_, rfl⟩
              rw [← hca, ← hwe] at hct
              have HCT := Lib.hid hct
              have HCA := Lib.hid (show ca = x.c ((m - 1) * 2) ∧ we = x.c ((m - 1) * 2 + 1) ∧ ca ≤ 780 ∧ we ≤ 780 from ⟨by rw [hca, hq]; rfl, by rw [hwe, hq]; rfl, by rw [hca]; exact HMX.out _, by rw [hwe]; exact HMX.out _⟩)
              have HMK := Lib.hid hm
              clear hk hkl hkk hm hmm hq hct hca hwe
              have e4 : IntKind.u64.wrap ((sk : Int) + (ca : Int)) = ((sk + ca : Nat) : Int) := by rw [IntKind.wrap_u64]; have := HSK.out.2; have := HCA.out; omega
              go_wp2_with (go_at_call 19; refine HCT.out.mono ?_; rintro e w7 ⟨rfl, hb⟩; have HP7 := Lib.hid (HP.out.next hb); have HN7 := Lib.hid (HN.out.next hb); have HB7 := Lib.hid (HB.out.trans (hb.mono HB.out.size)); clear hb HCT HP HN HB)
              (try rw [HWK.out])
              go_roundw
              case rel => exact ⟨kk, by have := HKK.out; omega, by rw [HKK.out.1, cam_take HMK.out, ← HSK.out.1, ← HCA.out.1]; first | rfl | simp, rfl, HP7.out, HN7.out, HB7.out⟩
              case measure => have := HKK.out; simp [intOf]; omega
            · have i1 : ¬ (k : Int) < (ln : Nat) := by omega
              have HAL := Lib.hid (show sk = camS x D by rw [HSK.out.1, List.take_of_length_le (by have := HLN.out; omega)])
              have HS9 := Lib.hid HSK.out.2
              clear hk hkl HSK
              go_upto_region 23 with fail
              clear i1
              go_loopw [18] (fun i wy => ∃ k : Nat, k ≤ ln ∧ i = .int .i64 k ∧ RP wy B d x ∧ Nds wy BN (.slice AD ln cD) D ∧ Below W.heap.size W wy) (fun i _ => ln - (intOf i).toNat)
              case atStart => exact ⟨0, Nat.zero_le _, rfl, HP.out, HN.out, HB.out⟩
              case round =>
                clear HP HN HB
                obtain ⟨k, hk, rfl, hP, hN, hb⟩ := hrel
                have HP := Lib.hid hP
                have HN := Lib.hid hN
                have HB := Lib.hid hb
                clear hP hN hb
                by_cases hkl : k < ln
                · skip
                  obtain ⟨kk, hkk⟩ : ∃ kk, kk = k + 1 := ⟨_, rfl⟩
                  have HKK := Lib.hid (show kk = k + 1 ∧ k < ln from ⟨hkk, hkl⟩)
                  have HWK := Lib.hid (Nd.wrap_n k kk hkk (by have := HLN.out; have := HDD.out.2.1; omega))
                  obtain ⟨m, hm⟩ : ∃ m, D[k]? = some m := ⟨_, List.getElem?_eq_getElem (by rw [← HLN.out]; exact hkl)⟩
                  have i1 : (k : Int) < (ln : Nat) := by omega
                  have i4 : ¬ (k : Int) < 0 := by omega
                  obtain ⟨g1, o1, cc1, ev1, _, hc1⟩ := HN.out.at_ hm
                  simp only [Value.slice.injEq] at ev1
                  obtain ⟨rfl, -, rfl⟩ := ev1
                  have hmm := HDD.out.2.2 m (List.mem_of_getElem? hm)
                  obtain ⟨q, hq⟩ : ∃ q, m = q + 1 := ⟨m - 1, by omega⟩
                  have hct := Rl.count_any wr HP.out (k := q) (by omega)
                  rw [show ((q : Nat) : Int) + 1 = ((m : Nat) : Int) by omega] at hct
                  obtain ⟨ca, hca⟩ : ∃ ca, ca = x.c (q * 2) := ⟨_, rfl⟩
                  obtain ⟨we, hwe⟩ : ∃ we, we = x.c (q * 2 + 1) := ⟨_, rfl⟩
                  rw [← hca, ← hwe] at hct
                  have HCT := Lib.hid hct
                  have HCA := Lib.hid (show ca = x.c ((m - 1) * 2) ∧ we = x.c ((m - 1) * 2 + 1) ∧ ca ≤ 780 ∧ we ≤ 780 from ⟨by rw [hca, hq]; rfl, by rw [hwe, hq]; rfl, by rw [hca]; exact HMX.out _, by rw [hwe]; exact HMX.out _⟩)
                  have HMK := Lib.hid hm
                  clear hk hkl hkk hm hmm hq hct hca hwe
                  have hsum := HI.out.sum m (List.mem_of_getElem? HMK.out)
                  rw [← HCA.out.1, ← HCA.out.2.1, ← HAL.out] at hsum
                  obtain ⟨df, hdf⟩ : ∃ df : Nat, sk = df + ca := ⟨sk - ca, by omega⟩
                  have e5 : IntKind.u64.wrap ((sk : Int) - (ca : Int)) = ((df : Nat) : Int) := by rw [IntKind.wrap_u64]; have := HS9.out; omega
                  have i6 : ¬ ((df : Nat) : Int) < ((we : Nat) : Int) := by omega
                  clear hsum hdf
                  go_wp2_with (go_at_call 19; refine HCT.out.mono ?_; rintro e w7 ⟨rfl, hb⟩; have HP7 := Lib.hid (HP.out.next hb); have HN7 := Lib.hid (HN.out.next hb); have HB7 := Lib.hid (HB.out.trans (hb.mono HB.out.size)); clear hb HCT HP HN HB)
                  (try rw [HWK.out])
                  go_roundw
                  case rel => exact ⟨kk, by have := HKK.out; omega, rfl, HP7.out, HN7.out, HB7.out⟩
                  case measure => have := HKK.out; simp [intOf]; omega
                · have i1 : ¬ (k : Int) < (ln : Nat) := by omega
                  clear hk hkl
                  go_wp2_with fail
                  refine (Rl.alive_any wr).mono ?_
                  rintro e w9 ⟨rfl, hb⟩
                  have HB9 := Lib.hid (HB.out.trans (hb.mono HB.out.size))
                  clear hb
                  go_wp2_with fail
                  go_ret
                  exact ⟨rfl, HB9.out⟩
end Rl
end Go.Proofs.Ytohnhokddbeheaa
namespace Go.Proofs.Ytohnhokddbeheaa
open Go.RowKit Go.ChangeShapes Go.WideShapes Go.ChangeAt Go.WideElems
set_option linter.unusedSimpArgs false
set_option linter.unusedVariables false
namespace Rl
open Tr

set_option maxRecDepth 100000 in
theorem sums_lifted (os : Os) (started : os.Started) (H : Type) (enc : TypeId × Value → H) :
    ReturnsInHanded {} Try.checked os 4 .any (Rows.relaySumsSpec.pre6 enc Try.prog Try.f4 Rows.relaySumsRow.domain false) (Rows.relaySumsSpec.post enc Try.prog Try.f4 false true false false) := by
  refine law_lift (C := Try.checked) own_knob started (by kernel_rfl) Try.func4 rfl Try.underlying4 laid_out (by kernel_rfl) rfl ?_
    (ChangeSpec.witness6 (enc := enc) (C := Try.checked) false ⟨#[], #[.agg #[.int .i64 0, .int .i64 0, .int .i64 0, .int .i64 0, .int .i64 0, .int .i64 0, .int .i64 0, .int .i64 0, .int .i64 0, .int .i64 0, .int .i64 0, .int .i64 0, .slice none 0 0], .int .i64 0, .slice none 0 0], []⟩ 8 (by kernel_rfl) (by kernel_rfl) (by kernel_rfl) (by kernel_rfl)) ?_
  · intro ds hds
    match ds, hds with
    | [_, _, _], _ => rfl
  intro W base args ds ps hval hA hlt hsz
  rw [Try.params4] at hA hval
  obtain ⟨v0, vs0, d0, ds0, p0, q0, hargs, rfl, rfl, h0, r0⟩ := trodAll_cons hA
  obtain ⟨v1, vs1, d1, ds1, p1, q1, rfl, rfl, rfl, h1, r1⟩ := trodAll_cons r0
  obtain ⟨v2, vs2, d2, ds2, p2, q2, rfl, rfl, rfl, h2, r2⟩ := trodAll_cons r1
  obtain ⟨rfl, rfl, rfl⟩ := trodAll_nil r2
  obtain rfl : args = #[v0, v1, v2] := by cases args; simp_all
  obtain ⟨t, rfl, hro, -, -⟩ := open_tree (hval 0 25 v0 rfl rfl) h0 (fun x hx => hlt x (by simp [hx]))
  obtain ⟨a1, rfl, rfl, rfl, w1⟩ := open_int Try.underlying3 (hval 1 3 v1 rfl rfl) h1
  obtain ⟨A2, c2, l2, rfl, hl2, hc2, hr2, hok2⟩ := open_rows Try.underlying26 18 cells_cm (by omega) Cm.cells (fun o => LabOk o.l) ⟨0, l0⟩ cm_len (hval 2 26 v2 rfl rfl) h2 (fun x hx => hlt x (by simp [hx])) (fun _ _ _ _ h _ => open_cm h)
  exact sums_walk W t hro a1 A2 l2.length c2 l2 rfl hr2 hok2

theorem sums_holds : Rows.RelaySumsSaid :=
  OpenClaim.holds_of_wide 4 Try.f4 rfl rfl rfl rfl rfl rfl rfl ⟨rfl, rfl, rfl, rfl, rfl⟩ rfl rfl rfl rfl rfl (by kernel_rfl) Try.func4 (by kernel_rfl)
    (of_decide_eq_true (by kernel_rfl)) (by unfold Func.isWrapper; first | (rw [if_pos (by decide +kernel)]; kernel_rfl) | (rw [if_neg (by decide +kernel)]; exact ⟨rfl, rfl⟩))
    (fun os started H enc _ => sums_lifted os started H enc)


end Rl
end Go.Proofs.Ytohnhokddbeheaa

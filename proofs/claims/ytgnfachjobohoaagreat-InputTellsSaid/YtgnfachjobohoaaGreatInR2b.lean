/-
The document's packets: Right.
The document's packets: Body, Write.
What is left of a read of the document's; the document's packets of bytes.
The document's inputs: cells; a packet of bytes; does an order or a check ask?
The document's inputs compared.
The document's inputs: does an order or a check ask? may an input be?
-/
import Derived.Test.YtgnfachjobohoaaGreatInR2
import Derived.Test.YtgnfachjobohoaaGreatLPut
import Derived.Test.YtgnfachjobohoaaGreatLab
namespace Go.Proofs.YtgnfachjobohoaaGreat
open Go.RowKit
set_option linter.unusedSimpArgs false
set_option linter.unusedVariables false
namespace In
set_option maxRecDepth 20000 in
set_option maxHeartbeats 8000000 in
theorem rright15_any (p : Pk.Pt) (W : World) (h256 : ∀ y ∈ p.bs, y < 256) : Calls Tryz.prog 41 #[.agg (rpc p).toArray] W fun e W' => e = .returned (.bool (Pk.rightB p)) ∧ Below W.heap.size W W' := by
  have bA := Blk.new W 37 (rpc p).toArray
  have HB := Lib.hid ((Below.refl W.heap.size W).alloc (Nat.le_refl _) (.cells (rpc p).toArray 37))
  obtain ⟨w1, hw1⟩ : ∃ w1, w1 = W.alloc (.cells (rpc p).toArray 37) := ⟨_, rfl⟩
  rw [← hw1] at bA HB
  have HW := Lib.hid hw1
  obtain ⟨-, c0, c1, c2, c3, c4⟩ := rp_all bA
  obtain ⟨k, f, t, q, bs⟩ := p
  dsimp only at c0 c1 c2 c3 c4
  have hz : (Byt.bstr bs).size = bs.length := Byt.bstr_size bs
  have k3 : ∀ w, (binOp .eql 9 (.string (Byt.bstr bs)) (.string ⟨#[]⟩)).run Tryz.prog w = .ok (.bool (decide (bs = []))) w := fun w => by
    have := Sx.str_eql w bs [] h256 (by simp)
    rwa [show Byt.bstr [] = ⟨#[]⟩ from by rw [Byt.bstr_lit]; rfl] at this
  have k4 : (Byt.bstr bs).toList.isEmpty = decide (bs = []) := by
    have := Sx.toList_beq bs [] h256 (by simp)
    rw [show Byt.bstr [] = ⟨#[]⟩ from by rw [Byt.bstr_lit]; rfl] at this
    rw [← this, show ByteArray.toList ⟨#[]⟩ = [] from by simp]
    cases (Byt.bstr bs).toList <;> rfl
  obtain ⟨s, hs⟩ : ∃ s, s = Byt.bstr bs := ⟨_, rfl⟩
  rw [← hs] at c4 hz k3 k4
  obtain ⟨n, hn⟩ : ∃ n, n = bs.length := ⟨_, rfl⟩
  rw [← hn] at hz
  have hN : decide (bs = []) = decide (n = 0) := by rw [hn]; cases bs <;> simp
  rw [hN] at k3 k4
  have HR := Lib.hid (show Pk.rightB ⟨k, f, t, q, bs⟩ = (Pk.nodeB f && Pk.nodeB t && decide (f ≠ t) && Pk.seqB q && Pk.dataB k n) by rw [hn]; rfl)
  have HC := Lib.hid (And.intro c0 (And.intro c1 (And.intro c2 (And.intro c3 c4))))
  have HZ := Lib.hid hz
  have HK := Lib.hid (And.intro k3 k4)
  clear bA hw1 hs hn hN h256 hz k3 k4
  rw [HR.out]
  unfold Pk.nodeB Pk.seqB
  go_enter Tryz.func41, Tryz.ntmps41
  go_upto_region 1 with fail
  rw [← HW.out]
  clear HW c0 c4
  by_cases t0 : f < 1
  · have d0 := decide_eq_true t0
    have Ht0 := Lib.hid (show decide ((1 : Int) ≤ f) = false by rw [decide_eq_false_iff_not]; omega)
    clear t0
    go_wp2_with fail
    go_ret
    exact ⟨by rw [Ht0.out]; simp, HB.out⟩
  have d0 := decide_eq_false t0
  have Ht0 := Lib.hid (show decide ((1 : Int) ≤ f) = true by rw [decide_eq_true_iff]; omega)
  clear t0
  by_cases t1 : (12 : Int) < f
  · have d1 := decide_eq_true t1
    have Ht1 := Lib.hid (show decide (f ≤ 12) = false by rw [decide_eq_false_iff_not]; omega)
    clear t1
    go_wp2_with fail
    go_ret
    exact ⟨by rw [Ht1.out]; simp, HB.out⟩
  have d1 := decide_eq_false t1
  have Ht1 := Lib.hid (show decide (f ≤ 12) = true by rw [decide_eq_true_iff]; omega)
  clear t1
  by_cases t2 : t < 1
  · have d2 := decide_eq_true t2
    have Ht2 := Lib.hid (show decide ((1 : Int) ≤ t) = false by rw [decide_eq_false_iff_not]; omega)
    clear t2
    go_wp2_with fail
    go_ret
    exact ⟨by rw [Ht2.out]; simp, HB.out⟩
  have d2 := decide_eq_false t2
  have Ht2 := Lib.hid (show decide ((1 : Int) ≤ t) = true by rw [decide_eq_true_iff]; omega)
  clear t2
  by_cases t3 : (12 : Int) < t
  · have d3 := decide_eq_true t3
    have Ht3 := Lib.hid (show decide (t ≤ 12) = false by rw [decide_eq_false_iff_not]; omega)
    clear t3
    go_wp2_with fail
    go_ret
    exact ⟨by rw [Ht3.out]; simp, HB.out⟩
  have d3 := decide_eq_false t3
  have Ht3 := Lib.hid (show decide (t ≤ 12) = true by rw [decide_eq_true_iff]; omega)
  clear t3
  by_cases t4 : f = t
  · have d4 : (f == t) = true := by simp [t4]
    have Ht4 := Lib.hid t4
    clear t4
    go_wp2_with fail
    go_ret
    exact ⟨by rw [show decide (f ≠ t) = false from decide_eq_false (fun h => h Ht4.out)]; simp, HB.out⟩
  have d4 : (f == t) = false := by simpa using t4
  have Ht4 := Lib.hid (show decide (f ≠ t) = true from decide_eq_true t4)
  clear t4
  by_cases t5 : (q : Int) < 1
  · have d5 := decide_eq_true t5
    have Ht5 := Lib.hid (show decide (1 ≤ q) = false by rw [decide_eq_false_iff_not]; omega)
    clear t5
    go_wp2_with fail
    go_ret
    exact ⟨by rw [Ht5.out]; simp, HB.out⟩
  have d5 := decide_eq_false t5
  have Ht5 := Lib.hid (show decide (1 ≤ q) = true by rw [decide_eq_true_iff]; omega)
  clear t5
  by_cases t6 : (1099511627776 : Int) < (q : Nat)
  · have d6 := decide_eq_true t6
    have Ht6 := Lib.hid (show decide (q ≤ 1099511627776) = false by rw [decide_eq_false_iff_not]; omega)
    clear t6
    go_wp2_with fail
    go_ret
    exact ⟨by rw [Ht6.out]; simp, HB.out⟩
  have d6 := decide_eq_false t6
  have Ht6 := Lib.hid (show decide (q ≤ 1099511627776) = true by rw [decide_eq_true_iff]; omega)
  clear t6
  go_upto_region 3 with fail
  clear d0 d1 d2 d3 d4 d5 d6 c1 c2 c3
  obtain ⟨c0, -, -, -, c4⟩ := HC.out
  have hall : ∀ z, (decide (1 ≤ f) && decide (f ≤ 12) && (decide (1 ≤ t) && decide (t ≤ 12)) && decide (f ≠ t) && (decide (1 ≤ q) && decide (q ≤ 1099511627776)) && z) = z := fun z => by rw [Ht0.out, Ht1.out, Ht2.out, Ht3.out, Ht4.out, Ht5.out, Ht6.out]; simp
  have HALL := Lib.hid hall
  clear hall
  obtain ⟨z, hzz⟩ : ∃ z : Int, ((s.size : Nat) : Int) = z := ⟨_, rfl⟩
  have HZZ := Lib.hid (show z = (n : Nat) by rw [← hzz, HZ.out])
  obtain ⟨k3, k4⟩ := HK.out
  clear HK HZ
  cases k with
  | true =>
    by_cases h0 : n = 0
    · rw [decide_eq_true h0] at k3 k4
      have H0 := Lib.hid h0
      clear h0 hzz
      go_wp2_with fail
      go_ret
      exact ⟨by rw [HALL.out]; simp [Pk.dataB, H0.out], HB.out⟩
    · rw [decide_eq_false h0] at k3 k4
      have H0 := Lib.hid h0
      clear h0 hzz
      go_wp2_with fail
      go_ret
      exact ⟨by rw [HALL.out]; simp [Pk.dataB, H0.out], HB.out⟩
  | false =>
    clear k3 k4
    by_cases h0 : 1 ≤ n
    · have p0 : decide ((0 : Int) < z) = true := by have := HZZ.out; rw [decide_eq_true_iff]; omega
      have p1 : (0 : Int) < z := of_decide_eq_true p0
      by_cases h1 : n ≤ 1800
      · have p2 : decide (z ≤ 1800) = true := by have := HZZ.out; rw [decide_eq_true_iff]; omega
        have H01 := Lib.hid (And.intro h0 h1)
        clear h0 h1 p1
        go_wp2_with fail
        go_ret
        exact ⟨by rw [HALL.out]; simp [Pk.dataB, H01.out.1, H01.out.2], HB.out⟩
      · have p2 : decide (z ≤ 1800) = false := by have := HZZ.out; rw [decide_eq_false_iff_not]; omega
        have H01 := Lib.hid (And.intro h0 h1)
        clear h0 h1 p1
        go_wp2_with fail
        go_ret
        exact ⟨by rw [HALL.out]; simp [Pk.dataB]; intro _; have := H01.out.2; omega, HB.out⟩
    · have p0 : decide ((0 : Int) < z) = false := by have := HZZ.out; rw [decide_eq_false_iff_not]; omega
      have H01 := Lib.hid h0
      clear h0
      go_wp2_with fail
      go_ret
      exact ⟨by rw [HALL.out]; simp [Pk.dataB]; intro h; exact absurd h (by have := H01.out; omega), HB.out⟩
end In
end Go.Proofs.YtgnfachjobohoaaGreat
namespace Go.Proofs.YtgnfachjobohoaaGreat
open Go.RowKit
set_option linter.unusedSimpArgs false
set_option linter.unusedVariables false
namespace In
theorem made_one (x : World) (n : Nat) : Made x (x.alloc (.cells #[.int .u8 (n : Nat)] 5)) (.slice (some ⟨x.heap.size, 0, none⟩) 1 1) [n] := ⟨own_one n (Nat.le_refl _), (Below.refl _ _).alloc (Nat.le_refl _) _⟩
set_option maxRecDepth 20000 in
set_option maxHeartbeats 8000000 in
theorem rbody15_yes (p : Pk.Pt) (hr : Pk.Rt p) (h256 : ∀ y ∈ p.bs, y < 256) (hk : p.k = true) (W : World) : Calls Tryz.prog 77 #[.agg (rpc p).toArray] W fun e W' => ∃ v, e = .returned v ∧ Made W W' v (Pk.encB p) := by
  have hbk := Blk.new W 37 (rpc p).toArray
  have hb0 := (Below.refl W.heap.size W).alloc (Nat.le_refl _) (.cells (rpc p).toArray 37)
  obtain ⟨f, hf⟩ : ∃ f : Nat, p.f = (f : Nat) := ⟨p.f.toNat, by have := hr.f1; omega⟩
  obtain ⟨t, ht⟩ : ∃ t : Nat, p.t = (t : Nat) := ⟨p.t.toNat, by have := hr.t1; omega⟩
  have hf12 : f ≤ 12 := by have := hr.f2; omega
  have ht12 : t ≤ 12 := by have := hr.t2; omega
  have HFT := Lib.hid (And.intro hf (And.intro ht (And.intro hk (And.intro hf12 ht12))))
  have HL := Lib.hid (And.intro (enc_len f (by omega)) (And.intro (enc_len t (by omega)) (And.intro (enc_len p.q (by have := hr.q2; omega)) hr.len)))
  have HQ2 := Lib.hid (show p.q < 18446744073709551616 by have := hr.q2; omega)
  have HEN := Lib.hid (show Pk.encB p = [1] ++ enc f ++ enc t ++ enc p.q by unfold Pk.encB Pk.ackN; rw [hk, hf, ht]; simp [enc_lo])
  have H256 := Lib.hid h256
  clear hr h256 hf ht hf12 ht12
  go_enter Tryz.func77, Tryz.ntmps77
  go_upto_region 1 with fail
  obtain ⟨x1, hx1⟩ : ∃ x1, x1 = W.alloc (.cells (rpc p).toArray 37) := ⟨_, rfl⟩
  rw [← hx1] at hb0 hbk ⊢
  have HB := Lib.hid hb0
  have HBK := Lib.hid hbk
  clear hx1 hb0 hbk
  go_upto_region 2 with (refine wpList_buildSlice2 rfl _ _ rfl rfl rfl ?_)
  obtain ⟨xb, hxb⟩ : ∃ xb, xb = x1.alloc (.cells #[.int .u8 0] 5) := ⟨_, rfl⟩
  have hbb : Below x1.heap.size x1 xb := by rw [hxb]; exact (Below.refl _ _).alloc (Nat.le_refl _) _
  have hsl : (Value.slice (some ⟨x1.heap.size, 0, none⟩) 1 1) = (Value.slice (some ⟨x1.heap.size, 0, none⟩) 1 1) := rfl
  rw [← hxb]
  have HBb := Lib.hid (HB.out.trans (hbb.mono HB.out.size))
  have HQ := Lib.hid (fun w' (hb : Below xb.heap.size xb w') => rp_all ((HBK.out.next hbb).next hb))
  obtain ⟨-, c0, -, -, -, -⟩ := HQ.out xb (Below.refl _ _)
  rw [hk] at c0
  clear hxb hbb hsl
  go_upto_region 4 with (refine wpList_buildSlice2 rfl _ _ rfl rfl rfl ?_)
  clear c0
  obtain ⟨x2, hx2⟩ : ∃ x2, x2 = xb.alloc (.cells #[.int .u8 1] 5) := ⟨_, rfl⟩
  have hO1 : Own8 xb.heap.size xb (xb.alloc (.cells #[.int .u8 1] 5)) (.slice (some ⟨xb.heap.size, 0, none⟩) 1 1) [1] := Own8.first (made_one xb 1)
  rw [← hx2] at hO1 ⊢
  obtain ⟨v1, hv1⟩ : ∃ v1 : Value, v1 = .slice (some ⟨xb.heap.size, 0, none⟩) 1 1 := ⟨_, rfl⟩
  rw [← hv1] at hO1 ⊢
  have HO1 := Lib.hid hO1
  clear hx2 hv1 hO1 HBK
  have ef : IntKind.u64.wrap ((f : Nat) : Int) = (f : Nat) := by rw [IntKind.wrap_u64]; have := HFT.out.2.2.2.1; omega
  have et : IntKind.u64.wrap ((t : Nat) : Int) = (t : Nat) := by rw [IntKind.wrap_u64]; have := HFT.out.2.2.2.2; omega
  refine wp_region_tree (S := (fun W' => Below xb.heap.size xb W')) (.take 0 (.take 1 (.take 2 (.take 3 (.take 6 (.take 7 (.take 8 (.one 4 (.one 5 (.one 9 (.one 10 (.take 11 .nil)))))))))))) 9999 (by kernel_rfl) (by kernel_rfl) (by kernel_rfl) (by kernel_rfl) (by kernel_rfl) (fun _ _ d _ _ h => by cases d <;> exact h) HO1.out.2.drew (fun hHeld => ?_); simp only [Tree.map, List.getElem?_toArray, List.getElem?_cons_zero, List.getElem?_cons_succ]
  (repeat (first | (refine wpTree.take (v := undef) (Or.inr ⟨by rfl, rfl⟩) ?_; simp only [Act.put, List.setIfInBounds_toArray, List.set_cons_zero, List.set_cons_succ]) | (refine wpTree.take (v := ?_) (Or.inl ⟨by rfl, ?_⟩) ?_; rotate_left; (focus (intro wq hS; obtain ⟨-, c0, c1, c2, c3, c4⟩ := HQ.out wq hS; rw [HFT.out.1] at c1; rw [HFT.out.2.1] at c2; go_simp; (try (with_reducible rfl)); done)); simp only [Act.put, List.setIfInBounds_toArray, List.set_cons_zero, List.set_cons_succ])))
  obtain ⟨xd, hxd⟩ : ∃ xd, xd = x2.drew := ⟨_, rfl⟩
  have HO1 := Lib.hid (show Own8 xb.heap.size xb xd v1 [1] by rw [hxd]; exact ⟨HO1.out.1, HO1.out.2.drew⟩)
  rw [← hxd]
  clear hxd hHeld ef et
  refine wpTree.one (fun K hK => ?_)
  go_simp
  go_at_call 46
  refine (rfnum_any f _ (by have := HFT.out.2.2.2.1; omega)).mono ?_
  rintro e y2 ⟨u2, rfl, hM⟩
  obtain ⟨A2, s2, rfl, hS⟩ := src_own hM.1
  have HM2 := Lib.hid hM
  have HS2 := Lib.hid hS
  have HH2 := Lib.hid (HO1.out.2.trans (hM.2.mono HO1.out.2.size))
  refine hK.out _ _ HH2.out (fun _ => ?_)
  clear hK K hM hS
  (try simp only [Act.put, List.setIfInBounds_toArray, List.set_cons_zero, List.set_cons_succ])
  refine wpTree.one (fun K hK => ?_)
  refine step_append_u8 _ (by rfl) _ _ rfl xb.heap.size v1 ([1]).length (u8s ([1])) rfl (own_next HO1.out.1 HM2.out.2 HO1.out.2.size) A2 (enc f).length s2 (u8s (enc f)) rfl (u8s_len _) HS2.out (u8s_one _) (by simp only [List.length_append, List.length_cons, List.length_nil]; have := HL.out; omega) (Nat.le_trans HO1.out.2.size HM2.out.2.size) ?_
  intro v3 y3 hown hgrow
  have HO3 := Lib.hid (Own8.more rfl HO1.out HM2.out rfl hown hgrow)
  clear hown hgrow HO1 HM2 HS2
  refine hK.out _ _ HO3.out.2 (fun _ => ?_)
  clear hK K
  (try simp only [Act.put, List.setIfInBounds_toArray, List.set_cons_zero, List.set_cons_succ])
  refine wpTree.one (fun K hK => ?_)
  go_simp
  go_at_call 46
  refine (rfnum_any t _ (by have := HFT.out.2.2.2.2; omega)).mono ?_
  rintro e y4 ⟨u4, rfl, hM⟩
  obtain ⟨A4, s4, rfl, hS⟩ := src_own hM.1
  have HM4 := Lib.hid hM
  have HS4 := Lib.hid hS
  have HH4 := Lib.hid (HO3.out.2.trans (hM.2.mono HO3.out.2.size))
  refine hK.out _ _ HH4.out (fun _ => ?_)
  clear hK K hM hS
  (try simp only [Act.put, List.setIfInBounds_toArray, List.set_cons_zero, List.set_cons_succ])
  refine wpTree.one (fun K hK => ?_)
  refine step_append_u8 _ (by rfl) _ _ rfl xb.heap.size v3 ([1] ++ enc f).length (u8s ([1] ++ enc f)) rfl (own_next HO3.out.1 HM4.out.2 HO3.out.2.size) A4 (enc t).length s4 (u8s (enc t)) rfl (u8s_len _) HS4.out (u8s_one _) (by simp only [List.length_append, List.length_cons, List.length_nil]; have := HL.out; omega) (Nat.le_trans HO3.out.2.size HM4.out.2.size) ?_
  intro v5 y5 hown hgrow
  have HO5 := Lib.hid (Own8.more rfl HO3.out HM4.out rfl hown hgrow)
  clear hown hgrow HO3 HM4 HS4
  refine hK.out _ _ HO5.out.2 (fun _ => ?_)
  clear hK K
  (try simp only [Act.put, List.setIfInBounds_toArray, List.set_cons_zero, List.set_cons_succ])
  (repeat (first | (refine wpTree.take (v := undef) (Or.inr ⟨by rfl, rfl⟩) ?_; simp only [Act.put, List.setIfInBounds_toArray, List.set_cons_zero, List.set_cons_succ]) | (refine wpTree.take (v := ?_) (Or.inl ⟨by rfl, ?_⟩) ?_; rotate_left; (focus (intro _ hS; (try dsimp only at hS); go_split_ands; (try subst hS); go_simp; (try (with_reducible rfl)); done)); simp only [Act.put, List.setIfInBounds_toArray, List.set_cons_zero, List.set_cons_succ])))
  refine wpTree.done ?_
  obtain ⟨-, c0, -, -, c3, -⟩ := HQ.out y5 HO5.out.2
  go_upto_region 6 with (first | (go_at_call 46; refine (rfnum_any p.q _ HQ2.out).mono ?_; rintro e y6 ⟨u6, rfl, hM⟩; obtain ⟨A6, s6, rfl, hS⟩ := src_own hM.1; have HM6 := Lib.hid hM; have HS6 := Lib.hid hS; clear hM hS) | (refine wpList_append_u8 _ rfl _ _ rfl xb.heap.size v5 ([1] ++ enc f ++ enc t).length (u8s ([1] ++ enc f ++ enc t)) rfl (own_next HO5.out.1 HM6.out.2 HO5.out.2.size) A6 (enc p.q).length s6 (u8s (enc p.q)) rfl (u8s_len _) HS6.out (u8s_one _) (by simp only [List.length_append, List.length_cons, List.length_nil]; have := HL.out; omega) (Nat.le_trans HO5.out.2.size HM6.out.2.size) ?_; intro v7 y7 hown hgrow _; have HO7 := Lib.hid (Own8.more rfl HO5.out HM6.out rfl hown hgrow); clear hown hgrow HO5 HM6 HS6))
  clear c0 c3
  obtain ⟨-, c0, -, -, -, c4⟩ := HQ.out y7 HO7.out.2
  rw [hk] at c0
  clear c4
  go_wp2_with fail
  go_ret
  exact ⟨v7, rfl, by rw [HEN.out]; exact own_le HO7.out.1 HBb.out.size, HBb.out.trans (HO7.out.2.mono HBb.out.size)⟩
set_option maxRecDepth 20000 in
set_option maxHeartbeats 8000000 in
theorem rbody15_no (p : Pk.Pt) (hr : Pk.Rt p) (h256 : ∀ y ∈ p.bs, y < 256) (hk : p.k = false) (W : World) : Calls Tryz.prog 77 #[.agg (rpc p).toArray] W fun e W' => ∃ v, e = .returned v ∧ Made W W' v (Pk.encB p) := by
  have hbk := Blk.new W 37 (rpc p).toArray
  have hb0 := (Below.refl W.heap.size W).alloc (Nat.le_refl _) (.cells (rpc p).toArray 37)
  obtain ⟨f, hf⟩ : ∃ f : Nat, p.f = (f : Nat) := ⟨p.f.toNat, by have := hr.f1; omega⟩
  obtain ⟨t, ht⟩ : ∃ t : Nat, p.t = (t : Nat) := ⟨p.t.toNat, by have := hr.t1; omega⟩
  have hf12 : f ≤ 12 := by have := hr.f2; omega
  have ht12 : t ≤ 12 := by have := hr.t2; omega
  have HFT := Lib.hid (And.intro hf (And.intro ht (And.intro hk (And.intro hf12 ht12))))
  have HL := Lib.hid (And.intro (enc_len f (by omega)) (And.intro (enc_len t (by omega)) (And.intro (enc_len p.q (by have := hr.q2; omega)) hr.len)))
  have HQ2 := Lib.hid (show p.q < 18446744073709551616 by have := hr.q2; omega)
  have HEN := Lib.hid (show Pk.encB p = [0] ++ enc f ++ enc t ++ enc p.q ++ (enc p.bs.length ++ p.bs) by unfold Pk.encB Pk.ackN; rw [hk, hf, ht]; simp [enc_lo])
  have H256 := Lib.hid h256
  clear hr h256 hf ht hf12 ht12
  go_enter Tryz.func77, Tryz.ntmps77
  go_upto_region 1 with fail
  obtain ⟨x1, hx1⟩ : ∃ x1, x1 = W.alloc (.cells (rpc p).toArray 37) := ⟨_, rfl⟩
  rw [← hx1] at hb0 hbk ⊢
  have HB := Lib.hid hb0
  have HBK := Lib.hid hbk
  clear hx1 hb0 hbk
  go_upto_region 2 with (refine wpList_buildSlice2 rfl _ _ rfl rfl rfl ?_)
  obtain ⟨x2, hx2⟩ : ∃ x2, x2 = x1.alloc (.cells #[.int .u8 0] 5) := ⟨_, rfl⟩
  have hO1 : Own8 x1.heap.size x1 (x1.alloc (.cells #[.int .u8 0] 5)) (.slice (some ⟨x1.heap.size, 0, none⟩) 1 1) [0] := Own8.first (made_one x1 0)
  rw [← hx2] at hO1 ⊢
  obtain ⟨v1, hv1⟩ : ∃ v1 : Value, v1 = .slice (some ⟨x1.heap.size, 0, none⟩) 1 1 := ⟨_, rfl⟩
  rw [← hv1] at hO1 ⊢
  have HO1 := Lib.hid hO1
  obtain ⟨xb, hxb⟩ : ∃ xb, xb = x1 := ⟨_, rfl⟩
  rw [← hxb] at HO1 HB HBK
  have HBb := Lib.hid HB.out
  have HQ := Lib.hid (fun w' (hb : Below xb.heap.size xb w') => rp_all (HBK.out.next hb))
  clear hx2 hv1 hO1 hxb HBK
  obtain ⟨-, c0, -, -, -, -⟩ := HQ.out x2 HO1.out.2
  rw [hk] at c0
  go_upto_region 4 with fail
  clear c0
  have ef : IntKind.u64.wrap ((f : Nat) : Int) = (f : Nat) := by rw [IntKind.wrap_u64]; have := HFT.out.2.2.2.1; omega
  have et : IntKind.u64.wrap ((t : Nat) : Int) = (t : Nat) := by rw [IntKind.wrap_u64]; have := HFT.out.2.2.2.2; omega
  refine wp_region_tree (S := (fun W' => Below xb.heap.size xb W')) (.take 0 (.take 1 (.take 2 (.take 3 (.take 6 (.take 7 (.take 8 (.one 4 (.one 5 (.one 9 (.one 10 (.take 11 .nil)))))))))))) 9999 (by kernel_rfl) (by kernel_rfl) (by kernel_rfl) (by kernel_rfl) (by kernel_rfl) (fun _ _ d _ _ h => by cases d <;> exact h) HO1.out.2.drew (fun hHeld => ?_); simp only [Tree.map, List.getElem?_toArray, List.getElem?_cons_zero, List.getElem?_cons_succ]
  (repeat (first | (refine wpTree.take (v := undef) (Or.inr ⟨by rfl, rfl⟩) ?_; simp only [Act.put, List.setIfInBounds_toArray, List.set_cons_zero, List.set_cons_succ]) | (refine wpTree.take (v := ?_) (Or.inl ⟨by rfl, ?_⟩) ?_; rotate_left; (focus (intro wq hS; obtain ⟨-, c0, c1, c2, c3, c4⟩ := HQ.out wq hS; rw [HFT.out.1] at c1; rw [HFT.out.2.1] at c2; go_simp; (try (with_reducible rfl)); done)); simp only [Act.put, List.setIfInBounds_toArray, List.set_cons_zero, List.set_cons_succ])))
  obtain ⟨xd, hxd⟩ : ∃ xd, xd = x2.drew := ⟨_, rfl⟩
  have HO1 := Lib.hid (show Own8 xb.heap.size xb xd v1 [0] by rw [hxd]; exact ⟨HO1.out.1, HO1.out.2.drew⟩)
  rw [← hxd]
  clear hxd hHeld ef et
  refine wpTree.one (fun K hK => ?_)
  go_simp
  go_at_call 46
  refine (rfnum_any f _ (by have := HFT.out.2.2.2.1; omega)).mono ?_
  rintro e y2 ⟨u2, rfl, hM⟩
  obtain ⟨A2, s2, rfl, hS⟩ := src_own hM.1
  have HM2 := Lib.hid hM
  have HS2 := Lib.hid hS
  have HH2 := Lib.hid (HO1.out.2.trans (hM.2.mono HO1.out.2.size))
  refine hK.out _ _ HH2.out (fun _ => ?_)
  clear hK K hM hS
  (try simp only [Act.put, List.setIfInBounds_toArray, List.set_cons_zero, List.set_cons_succ])
  refine wpTree.one (fun K hK => ?_)
  refine step_append_u8 _ (by rfl) _ _ rfl xb.heap.size v1 ([0]).length (u8s ([0])) rfl (own_next HO1.out.1 HM2.out.2 HO1.out.2.size) A2 (enc f).length s2 (u8s (enc f)) rfl (u8s_len _) HS2.out (u8s_one _) (by simp only [List.length_append, List.length_cons, List.length_nil]; have := HL.out; omega) (Nat.le_trans HO1.out.2.size HM2.out.2.size) ?_
  intro v3 y3 hown hgrow
  have HO3 := Lib.hid (Own8.more rfl HO1.out HM2.out rfl hown hgrow)
  clear hown hgrow HO1 HM2 HS2
  refine hK.out _ _ HO3.out.2 (fun _ => ?_)
  clear hK K
  (try simp only [Act.put, List.setIfInBounds_toArray, List.set_cons_zero, List.set_cons_succ])
  refine wpTree.one (fun K hK => ?_)
  go_simp
  go_at_call 46
  refine (rfnum_any t _ (by have := HFT.out.2.2.2.2; omega)).mono ?_
  rintro e y4 ⟨u4, rfl, hM⟩
  obtain ⟨A4, s4, rfl, hS⟩ := src_own hM.1
  have HM4 := Lib.hid hM
  have HS4 := Lib.hid hS
  have HH4 := Lib.hid (HO3.out.2.trans (hM.2.mono HO3.out.2.size))
  refine hK.out _ _ HH4.out (fun _ => ?_)
  clear hK K hM hS
  (try simp only [Act.put, List.setIfInBounds_toArray, List.set_cons_zero, List.set_cons_succ])
  refine wpTree.one (fun K hK => ?_)
  refine step_append_u8 _ (by rfl) _ _ rfl xb.heap.size v3 ([0] ++ enc f).length (u8s ([0] ++ enc f)) rfl (own_next HO3.out.1 HM4.out.2 HO3.out.2.size) A4 (enc t).length s4 (u8s (enc t)) rfl (u8s_len _) HS4.out (u8s_one _) (by simp only [List.length_append, List.length_cons, List.length_nil]; have := HL.out; omega) (Nat.le_trans HO3.out.2.size HM4.out.2.size) ?_
  intro v5 y5 hown hgrow
  have HO5 := Lib.hid (Own8.more rfl HO3.out HM4.out rfl hown hgrow)
  clear hown hgrow HO3 HM4 HS4
  refine hK.out _ _ HO5.out.2 (fun _ => ?_)
  clear hK K
  (try simp only [Act.put, List.setIfInBounds_toArray, List.set_cons_zero, List.set_cons_succ])
  (repeat (first | (refine wpTree.take (v := undef) (Or.inr ⟨by rfl, rfl⟩) ?_; simp only [Act.put, List.setIfInBounds_toArray, List.set_cons_zero, List.set_cons_succ]) | (refine wpTree.take (v := ?_) (Or.inl ⟨by rfl, ?_⟩) ?_; rotate_left; (focus (intro _ hS; (try dsimp only at hS); go_split_ands; (try subst hS); go_simp; (try (with_reducible rfl)); done)); simp only [Act.put, List.setIfInBounds_toArray, List.set_cons_zero, List.set_cons_succ])))
  refine wpTree.done ?_
  obtain ⟨-, c0, -, -, c3, -⟩ := HQ.out y5 HO5.out.2
  go_upto_region 6 with (first | (go_at_call 46; refine (rfnum_any p.q _ HQ2.out).mono ?_; rintro e y6 ⟨u6, rfl, hM⟩; obtain ⟨A6, s6, rfl, hS⟩ := src_own hM.1; have HM6 := Lib.hid hM; have HS6 := Lib.hid hS; clear hM hS) | (refine wpList_append_u8 _ rfl _ _ rfl xb.heap.size v5 ([0] ++ enc f ++ enc t).length (u8s ([0] ++ enc f ++ enc t)) rfl (own_next HO5.out.1 HM6.out.2 HO5.out.2.size) A6 (enc p.q).length s6 (u8s (enc p.q)) rfl (u8s_len _) HS6.out (u8s_one _) (by simp only [List.length_append, List.length_cons, List.length_nil]; have := HL.out; omega) (Nat.le_trans HO5.out.2.size HM6.out.2.size) ?_; intro v7 y7 hown hgrow _; have HO7 := Lib.hid (Own8.more rfl HO5.out HM6.out rfl hown hgrow); clear hown hgrow HO5 HM6 HS6))
  clear c0 c3
  obtain ⟨-, c0, -, -, -, c4⟩ := HQ.out y7 HO7.out.2
  rw [hk] at c0
  obtain ⟨n, hn⟩ : ∃ n, p.bs.length = n := ⟨_, rfl⟩
  have hcv := Sx.str_bytes y7 p.bs n hn
  have hsrc := Sx.objS_byr y7 p.bs H256.out
  obtain ⟨y8, hy8⟩ : ∃ y8, y8 = y7.drew.alloc (Sx.objS p.bs y7) := ⟨_, rfl⟩
  have hb8 : Below y7.heap.size y7 y8 := by rw [hy8]; exact ((Below.refl _ _).drew).alloc (Nat.le_refl _) _
  rw [← hy8] at hcv hsrc
  obtain ⟨g8, hg8⟩ : ∃ g8, g8 = y7.heap.size := ⟨_, rfl⟩
  rw [← hg8] at hcv hsrc
  have HS8 := Lib.hid (show Src y8 (some ⟨g8, 0, none⟩) n (u8s p.bs) from hn ▸ hsrc.src (fun h => by cases h))
  have HB8 := Lib.hid hb8
  have HN := Lib.hid hn
  clear hy8 hg8 hb8 hsrc hn
  have hTX : Calls Tryz.prog 48 #[.slice (some ⟨g8, 0, none⟩) n (Sx.capS p.bs y7)] y8 fun e W' => ∃ v, e = .returned v ∧ Made y8 W' v (enc n ++ p.bs) := rftext_any _ n _ p.bs _ HN.out HS8.out (by have := HL.out.2.2.2; have := HN.out; omega)
  obtain ⟨E9, hE9⟩ : ∃ E9, enc n ++ p.bs = E9 := ⟨_, rfl⟩
  have HE9 := Lib.hid (show E9.length ≤ 1810 by rw [← hE9, List.length_append]; have := HL.out.2.2.2; have := HN.out; have := enc_len n (by omega); omega)
  have HEQ := Lib.hid hE9
  rw [hE9] at hTX
  have HTX := Lib.hid hTX
  clear hE9 hTX
  go_wp2_with (first | (go_at_call 48; refine HTX.out.mono ?_; rintro e y9 ⟨u9, rfl, hM⟩; obtain ⟨A9, s9, rfl, hS⟩ := src_own hM.1; have HM9 := Lib.hid (show Made y7 y9 (.slice A9 E9.length s9) E9 from ⟨own_le hM.1 HB8.out.size, HB8.out.trans (hM.2.mono HB8.out.size)⟩); have HS9 := Lib.hid hS; clear hM hS hcv c0 c4) | (refine wpList_append_u8 _ rfl _ _ rfl xb.heap.size v7 ([0] ++ enc f ++ enc t ++ enc p.q).length (u8s ([0] ++ enc f ++ enc t ++ enc p.q)) rfl (own_next HO7.out.1 HM9.out.2 HO7.out.2.size) A9 E9.length s9 (u8s E9) rfl (u8s_len _) HS9.out (u8s_one _) (by simp only [List.length_append, List.length_cons, List.length_nil]; have := HL.out; have := HE9.out; omega) (Nat.le_trans HO7.out.2.size HM9.out.2.size) ?_; intro v10 y10 hown hgrow _; have HO10 := Lib.hid (Own8.more rfl HO7.out HM9.out rfl hown hgrow); clear hown hgrow HO7 HM9 HS9))
  go_ret
  exact ⟨v10, rfl, by rw [HEN.out, HN.out, HEQ.out]; exact own_le HO10.out.1 HBb.out.size, HBb.out.trans (HO10.out.2.mono HBb.out.size)⟩
theorem rbody15_any (p : Pk.Pt) (hr : Pk.Rt p) (h256 : ∀ y ∈ p.bs, y < 256) (W : World) : Calls Tryz.prog 77 #[.agg (rpc p).toArray] W fun e W' => ∃ v, e = .returned v ∧ Made W W' v (Pk.encB p) := by
  cases hk : p.k with
  | true => exact rbody15_yes p hr h256 hk W
  | false => exact rbody15_no p hr h256 hk W
set_option maxRecDepth 20000 in
set_option maxHeartbeats 4000000 in
theorem rwrite15_any (p : Pk.Pt) (hr : Pk.Rt p) (h256 : ∀ y ∈ p.bs, y < 256) (W : World) : Calls Tryz.prog 49 #[.agg (rpc p).toArray] W fun e W' => ∃ v, e = .returned v ∧ Made W W' v (Pk.encP p) := by
  have hbk := Blk.new W 37 (rpc p).toArray
  have hb0 := (Below.refl W.heap.size W).alloc (Nat.le_refl _) (.cells (rpc p).toArray 37)
  obtain ⟨x1, hx1⟩ : ∃ x1, x1 = W.alloc (.cells (rpc p).toArray 37) := ⟨_, rfl⟩
  rw [← hx1] at hb0 hbk
  have HX1 := Lib.hid hx1
  have HB := Lib.hid hb0
  have rp := hbk.range
  have HBD := Lib.hid (fun w => rbody15_any p hr h256 w)
  have hcl := Crc.sum_lt (Pk.encB_256 h256)
  have hlen := Pk.encB_len hr
  have HE := Lib.hid (Pk.encB_256 h256)
  obtain ⟨E, hE⟩ : ∃ E, E = Pk.encB p := ⟨_, rfl⟩
  rw [← hE] at HBD hcl hlen HE
  obtain ⟨s, hs⟩ : ∃ s, s = Crc.sum E := ⟨_, rfl⟩
  rw [← hs] at hcl
  have HEN := Lib.hid (show Pk.encP p = E ++ enc s by unfold Pk.encP; rw [← hE, hs])
  have HSM := Lib.hid hs
  have HL := Lib.hid (And.intro hlen (And.intro hcl (enc_len s (by omega))))
  have es : IntKind.u64.wrap ((s : Nat) : Int) = (s : Nat) := by rw [IntKind.wrap_u64]; omega
  clear hr h256 hb0 hbk hE hs hcl hlen hx1
  go_enter Tryz.func49, Tryz.ntmps49
  go_upto_region 1 with fail
  rw [← HX1.out]
  clear HX1
  go_upto_region 2 with (first | (refine wpList_load_mid rfl 37 _ rfl _ _ rfl (rpc p) _ rp Tryz.underlying37 rfl (rpinfo _) ?_) | (go_at_call 77; refine (HBD.out _).mono ?_; rintro e x2 ⟨v1, rfl, hM⟩; have HO1 := Lib.hid (Own8.first hM); clear hM rp HBD))
  have HV := Lib.hid (fun w (hb : Below x2.heap.size x2 w) => rof_any v1 E w (Pk.own_bytes (own_next HO1.out.1 hb HO1.out.2.size) HE.out) (by have := HL.out.1; omega))
  rw [← HSM.out] at HV
  go_wp2_with (first | (go_at_call 78; refine (HV.out _ (Below.refl _ _)).mono ?_; rintro e y2 ⟨rfl, rfl⟩) | (go_at_call 46; refine (rfnum_any s _ (by have := HL.out.2.1; omega)).mono ?_; rintro e y3 ⟨u3, rfl, hM⟩; obtain ⟨A3, s3, rfl, hS⟩ := src_own hM.1; have HM3 := Lib.hid hM; have HS3 := Lib.hid hS; clear hM hS es) | (refine wpList_append_u8 _ rfl _ _ rfl x1.heap.size v1 (E).length (u8s (E)) rfl (own_next HO1.out.1 HM3.out.2 HO1.out.2.size) A3 (enc s).length s3 (u8s (enc s)) rfl (u8s_len _) HS3.out (u8s_one _) (by have := HL.out; omega) (Nat.le_trans HO1.out.2.size HM3.out.2.size) ?_; intro v4 y4 hown hgrow _; have HO4 := Lib.hid (Own8.more rfl HO1.out HM3.out rfl hown hgrow); clear hown hgrow HO1 HM3 HS3))
  go_ret
  exact ⟨v4, rfl, by rw [HEN.out]; exact own_le HO4.out.1 HB.out.size, HB.out.trans (HO4.out.2.mono HB.out.size)⟩
end In
end Go.Proofs.YtgnfachjobohoaaGreat
namespace Go.Proofs.YtgnfachjobohoaaGreat
open Go.RowKit
set_option linter.unusedSimpArgs false
set_option linter.unusedVariables false
namespace In
section
variable {γ : Type}
/-- What is left of a read: the parser that goes on, and where. -/
def G2 (R : Except Int (γ × List Nat)) (bs : List Nat) (p : Nat) (e : Int) (Q : List Nat → Except Int (γ × List Nat)) : Prop := (e = 0 → R = Q (bs.drop p)) ∧ (e ≠ 0 → ∃ y, R = .error y)
variable {R : Except Int (γ × List Nat)} {bs : List Nat} {p p' : Nat} {e e' : Int}
theorem G2.step {α : Type} {P : List Nat → Except Int (α × List Nat)} {Q : α → List Nat → Except Int (γ × List Nat)} {a : α} (h : G2 R bs p e (bindP P Q)) (hp : PostP P bs p p' e e' (fun x => a = x)) : G2 R bs p' e' (Q a) := by
  refine ⟨fun he' => ?_, fun he' => ?_⟩
  · have he : e = 0 := Classical.byContradiction fun hc => hp.1 hc he'
    have h2 := hp.2 he
    have h1 := h.1 he
    rcases hq : P (bs.drop p) with y | ⟨x, t⟩
    · rw [hq] at h2; exact absurd he' h2
    · rw [hq] at h2
      obtain ⟨rfl, _, hd⟩ := h2
      rw [h1, bindP_ok hq, hd]
  · by_cases he : e = 0
    · have h2 := hp.2 he
      rcases hq : P (bs.drop p) with y | ⟨x, t⟩
      · exact ⟨y, (h.1 he).trans (bindP_err hq)⟩
      · rw [hq] at h2; exact absurd h2.2.1 he'
    · exact h.2 he
theorem G2.eq {Q Q' : List Nat → Except Int (γ × List Nat)} (h : G2 R bs p e Q) (hq : ∀ t, Q t = Q' t) : G2 R bs p e Q' := ⟨fun he => (h.1 he).trans (hq _), h.2⟩
theorem G2.off {Q Q' : List Nat → Except Int (γ × List Nat)} (h : G2 R bs p e Q) (he : e ≠ 0) : G2 R bs p e Q' := ⟨fun h0 => absurd h0 he, h.2⟩
theorem G2.nil {Q : List Nat → Except Int (γ × List Nat)} (h : G2 R bs p e Q) (he : e ≠ 0) : ∀ x, R ≠ .ok (x, []) := fun x hx => by
  obtain ⟨y, hy⟩ := h.2 he; rw [hy] at hx; cases hx
theorem G2.end_yes {m : γ} (h : G2 R bs p e (pureP m)) {z : Int} (hz : EndPost z e bs p) (hz0 : z = 0) : R = .ok (m, []) := by
  obtain ⟨he, hd⟩ := hz.1 hz0
  rw [h.1 he, hd]; rfl
theorem G2.end_no {m : γ} (h : G2 R bs p e (pureP m)) {z : Int} (hz : EndPost z e bs p) (hz0 : z ≠ 0) : ∀ x, R ≠ .ok (x, []) := fun x hx => by
  by_cases he : e = 0
  · rw [h.1 he] at hx
    unfold pureP at hx
    simp only [Except.ok.injEq, Prod.mk.injEq] at hx
    exact hz0 (hz.2 ⟨he, hx.2⟩)
  · obtain ⟨y, hy⟩ := h.2 he; rw [hy] at hx; cases hx
end
theorem off_cells (g : Nat) : ∀ (vs : List Value) (o : Nat) (w w' : World), Off g w w' → Off g w (w'.setCells g o vs)
  | [], _, _, _, h => h
  | v :: r, o, w, w', h => off_cells g r (o + 1) w _ (h.set o v)
/-- In the middle of the document's read. -/
structure RdS (T : TypeId) (Z : Array Value) (W : World) (k g c : Nat) (A : Option Addr) (cc : Nat) (bs : List Nat) (w : World) (p : Nat) (e : Int) (cs : List Value) : Prop where
  s : RS w k A cc bs p e
  g0 : Blk w g T Z
  c0 : Blk w c T cs.toArray
  b : Below W.heap.size W w
  ck : c ≠ k
  gk : g ≠ k
  cg : c ≠ g
  wk : W.heap.size ≤ k
  wc : W.heap.size ≤ c
  low : bs ≠ [] → ∀ b q, A = some ⟨b, q, none⟩ → b ≠ c
section
variable {T : TypeId} {Z : Array Value} {W w w' : World} {k g c cc p p' : Nat} {A : Option Addr} {bs : List Nat} {e e' : Int} {cs cs' : List Value}
theorem RdS.read (h : RdS T Z W k g c A cc bs w p e cs) (hO : Off k w w') (hS : RS w' k A cc bs p' e') : RdS T Z W k g c A cc bs w' p' e' cs :=
  { h with s := hS, g0 := hO.blk h.g0 h.gk, c0 := hO.blk h.c0 h.ck, b := h.b.trans (hO.belowB h.wk h.b.size) }
theorem RdS.next (h : RdS T Z W k g c A cc bs w p e cs) (hb : Below w.heap.size w w') : RdS T Z W k g c A cc bs w' p e cs :=
  { h with s := h.s.next hb, g0 := h.g0.next hb, c0 := h.c0.next hb, b := h.b.trans (hb.mono h.b.size) }
theorem RdS.put (h : RdS T Z W k g c A cc bs w p e cs) (hO : Off c w w') (hc : Blk w' c T cs'.toArray) : RdS T Z W k g c A cc bs w' p e cs' :=
  { h with s := h.s.off hO (Ne.symm h.ck) h.low, g0 := hO.blk h.g0 (Ne.symm h.cg), c0 := hc, b := h.b.trans (hO.belowB h.wc h.b.size) }
theorem RdS.cell (h : RdS T Z W k g c A cc bs w p e cs) (i : Nat) (v : Value) (hc : cs.set i v = cs') : RdS T Z W k g c A cc bs (w.setCell ⟨c, i, none⟩ v) p e cs' :=
  h.put ((Off.refl _ _).set _ _) (by have := h.c0.setCell i v; rwa [List.setIfInBounds_toArray, hc] at this)
theorem RdS.at' (h : RdS T Z W k g c A cc bs w p e cs) (i : Nat) (v : Value) (hv : cs[i]? = some v) : w.cell? ⟨c, i, none⟩ = some v := by rw [h.c0.cell, List.getElem?_toArray, hv]
end
theorem refnumA (k c : Nat) (A : Option Addr) (bs : List Nat) (hlen : bs.length ≤ 140737488355328) (hby : ∀ x ∈ bs, x < 256) (p : Nat) (e : Int) (W : World) (h : RS W k A c bs p e) :
    Calls Tryz.prog 25 #[.pointer (some ⟨k, 0, none⟩)] W fun r W' => ∃ (v p' : Nat) (e' : Int), r = .returned (.int .u64 (v : Nat)) ∧ RS W' k A c bs p' e' ∧ Off k W W' ∧ PostP (numP true 0) bs p p' e e' (fun x => v = x) := by
  by_cases he : e = 0
  · subst he
    refine (refnum_on k c A bs hlen hby p W h).mono ?_
    rintro r w1 ⟨v, p', e', rfl, hS, hO, hR⟩
    refine ⟨v, p', e', rfl, hS, hO, fun h => absurd rfl h, fun _ => ?_⟩
    unfold NumPost at hR
    rcases hq : numP true 0 (bs.drop p) with y | ⟨x, t⟩
    · rw [hq] at hR; exact hR.2
    · rw [hq] at hR; exact hR
  · refine (refnum_off k c A bs p e W h he).mono ?_
    rintro r w1 ⟨rfl, rfl⟩
    exact ⟨0, p, e, rfl, h, Off.refl _ _, PostP.bad he he⟩
/-- The packet that bytes begin with: its parts one after the other. -/
theorem kP2_def (p : Pk.Pt) (t : List Nat) : Pk.kP2 p t = bindP (smallP 4294967295) (fun s => pureP (p, s)) t := by
  unfold Pk.kP2 bindP smallP
  rcases numP true 0 t with x | ⟨s, q⟩
  · rfl
  · by_cases h : s ≤ 4294967295
    · dsimp only; rw [if_pos h, if_pos (by omega)]; rfl
    · dsimp only; rw [if_neg h, if_neg (by omega)]
theorem kP_def (t : List Nat) : Pk.kP t = bindP (smallP 1) (fun a => bindP (smallP 12) fun f => bindP (smallP 12) fun n => bindP (numP true 0) fun q => bindP (if a = 1 then pureP [] else textP 1800) fun x => bindP (Pk.finP ⟨decide (a = 1), f, n, q, x⟩) fun p => bindP (smallP 4294967295) fun s => pureP (p, s)) t := by
  have fin : ∀ (P : Pk.Pt) t, (match Pk.finP P t with | .ok (p, t) => Pk.kP2 p t | .error e => .error e) = bindP (Pk.finP P) (fun p => bindP (smallP 4294967295) fun s => pureP (p, s)) t := by
    intro P t
    unfold bindP
    rcases Pk.finP P t with x | ⟨p, t⟩
    · rfl
    · exact kP2_def p t
  unfold Pk.kP Pk.getP
  rcases h1 : smallP 1 t with x | ⟨a, t1⟩
  · rw [bindP_err h1]
  rw [bindP_ok h1]
  dsimp only
  unfold Pk.getP1
  rcases h2 : smallP 12 t1 with x | ⟨f, t2⟩
  · rw [bindP_err h2]
  rw [bindP_ok h2]
  dsimp only
  unfold Pk.getP2
  rcases h3 : smallP 12 t2 with x | ⟨n, t3⟩
  · rw [bindP_err h3]
  rw [bindP_ok h3]
  dsimp only
  unfold Pk.getP3
  rcases h4 : numP true 0 t3 with x | ⟨q, t4⟩
  · rw [bindP_err h4]
  rw [bindP_ok h4]
  dsimp only
  unfold Pk.getP4
  by_cases ha : a = 1
  · subst ha
    rw [if_pos rfl, if_pos rfl]
    exact fin _ _
  · rw [if_neg ha, if_neg ha, decide_eq_false ha]
    rcases h5 : textP 1800 t4 with x | ⟨x, t5⟩
    · rw [bindP_err h5]
    rw [bindP_ok h5]
    exact fin _ _
theorem rt_of {p : Pk.Pt} (h : Pk.rightB p = true) : Pk.Rt p := by
  exact Pk.right_of h
/-- What Read of a packet hands back. -/
def RdK (bs : List Nat) (p : Pk.Pt) (z : Int) : Prop := match pkOf bs with
  | some q => z = 0 ∧ q = p
  | none => z ≠ 0
theorem RdK.yes {bs : List Nat} {p : Pk.Pt} {s : Nat} (h : Pk.kP bs = .ok ((p, s), [])) (hs : s = Crc.sum (Pk.encB p)) : RdK bs p 0 := by
  have e : pkOf bs = some p := by unfold pkOf; rw [h]; exact if_pos hs
  unfold RdK; rw [e]; exact ⟨rfl, rfl⟩
theorem RdK.sum {bs : List Nat} {p q : Pk.Pt} {s : Nat} {z : Int} (h : Pk.kP bs = .ok ((p, s), [])) (hs : ¬ s = Crc.sum (Pk.encB p)) (hz : z ≠ 0) : RdK bs q z := by
  have e : pkOf bs = none := by unfold pkOf; rw [h]; exact if_neg hs
  unfold RdK; rw [e]; exact hz
theorem RdK.no {bs : List Nat} {q : Pk.Pt} {z : Int} (h : ∀ x, Pk.kP bs ≠ .ok (x, [])) (hz : z ≠ 0) : RdK bs q z := by
  have e : pkOf bs = none := by
    unfold pkOf
    split
    · rename_i p s hk; exact absurd hk (h _)
    · rfl
  unfold RdK; rw [e]; exact hz
theorem built_rp0 : Tryz.prog.built 37 [] = some (rpc zp).toArray := by rw [zrp_arr]; kernel_rfl
theorem built_rpk (b : Bool) : Tryz.prog.built 37 [(0, .bool b)] = some (rpc ⟨b, 0, 0, 0, []⟩).toArray := by rw [rpc_def, Byt.bstr_lit]; kernel_rfl
theorem rpc_def' (k : Bool) (f t : Int) (q : Nat) (bs : List Nat) : rpc ⟨k, f, t, q, bs⟩ = [.bool k, .int .i64 f, .int .i64 t, .int .u64 (q : Nat), .string (Byt.bstr bs)] := rpc_def _
abbrev RdSk := RdS 37 zrpA
set_option maxRecDepth 20000 in
set_option maxHeartbeats 16000000 in
theorem rread15_any (A : Option Addr) (n cc : Nat) (bs : List Nat) (hn : bs.length = n) (hlen : bs.length ≤ 140737488355328) (hc : bs.length ≤ cc) (hby : ∀ x ∈ bs, x < 256) (W : World) (hb : Byt.ByR W A bs) :
    Calls Tryz.prog 69 #[.slice A n cc] W fun r W' => ∃ (p : Pk.Pt) (z : Int), r = .returned (.tuple #[.agg (rpc p).toArray, .int .i64 z]) ∧ Below W.heap.size W W' ∧ RdK bs p z ∧ ∀ y ∈ p.bs, y < 256 := by
  subst hn
  have b1 := (Below.refl W.heap.size W).alloc (Nat.le_refl _) (.cells zrpA 37)
  have hg := (Blk.new W 37 zrpA).alloc (.cells #[.slice A bs.length cc, .int .i64 0, .int .i64 0] 70)
  have hsz : (W.alloc (.cells zrpA 37)).heap.size = W.heap.size + 1 := by simp
  have b2 := b1.alloc (by rw [hsz]; omega) (.cells #[.slice A bs.length cc, .int .i64 0, .int .i64 0] 70)
  have hk := Blk.new (W.alloc (.cells zrpA 37)) 70 #[.slice A bs.length cc, .int .i64 0, .int .i64 0]
  rw [hsz] at hk
  obtain ⟨w0, hw0⟩ : ∃ w0, w0 = (W.alloc (.cells zrpA 37)).alloc (.cells #[.slice A bs.length cc, .int .i64 0, .int .i64 0] 70) := ⟨_, rfl⟩
  rw [← hw0] at hg hk b2
  have HLOW := Lib.hid (show bs ≠ [] → ∀ b q, A = some ⟨b, q, none⟩ → b < W.heap.size from fun hne b q e => by
    obtain ⟨b', q', e', h1', _⟩ := hb.resolve_left hne
    rw [e] at e'
    cases e'
    exact h1')
  have HS := Lib.hid (show RS w0 (W.heap.size + 1) A cc bs 0 0 from ⟨hk, by
    by_cases hbs : bs = []
    · exact Or.inl hbs
    · obtain ⟨b, q, e, h1, h2⟩ := (hb.next b2).resolve_left hbs
      obtain ⟨b', q', e', h1', _⟩ := hb.resolve_left hbs
      rw [e] at e'
      cases e'
      exact Or.inr ⟨b, q, e, h1, by omega, h2⟩, Nat.zero_le _⟩)
  have HG := Lib.hid hg
  have HB := Lib.hid b2
  obtain ⟨R, hR⟩ : ∃ R, R = Pk.kP bs := ⟨_, rfl⟩
  have HG2 := Lib.hid (show G2 R bs 0 0 (bindP (smallP 1) fun a => bindP (smallP 12) fun f => bindP (smallP 12) fun n => bindP (numP true 0) fun q => bindP (if a = 1 then pureP [] else textP 1800) fun x => bindP (Pk.finP ⟨decide (a = 1), f, n, q, x⟩) fun p => bindP (smallP 4294967295) fun s => pureP (p, s)) from ⟨fun _ => by rw [hR, kP_def, List.drop_zero], fun h => absurd rfl h⟩)
  have HR := Lib.hid hR
  clear b1 hg hsz b2 hk hb hR
  go_enter Tryz.func69, Tryz.ntmps69
  go_upto_region 2 with fail
  rw [← hw0]
  clear hw0
  obtain ⟨k, hkE⟩ : ∃ k, k = W.heap.size + 1 := ⟨_, rfl⟩
  obtain ⟨g, hgE⟩ : ∃ g, g = W.heap.size := ⟨_, rfl⟩
  have HKE := Lib.hid (And.intro hkE hgE)
  have HS := Lib.hid (show RS w0 k A cc bs 0 0 by rw [hkE]; exact HS.out)
  have HG := Lib.hid (show Blk w0 g 37 zrpA by rw [hgE]; exact HG.out)
  (try rw [← hkE])
  (try rw [← hgE])
  clear hkE hgE
  go_wp2_with fail
  refine (refsmall_any k cc A bs hlen hby 1 (by decide) 0 0 w0 HS.out).mono ?_
  rintro r w1 ⟨a, p1, d1, rfl, hS, hO, ha1, hP⟩
  have HK1 := Lib.hid (HG2.out.step hP)
  have HB1 := Lib.hid (HB.out.trans (hO.belowB (B := W.heap.size) (by have := HKE.out.1; omega) HB.out.size))
  have HG1 := Lib.hid (hO.blk HG.out (by have := HKE.out.1; have := HKE.out.2; omega))
  have HS1 := Lib.hid hS
  have hca : a = 0 ∨ a = 1 := by omega
  clear hP hO hS HS HB HG HG2 ha1
  rcases hca with h0 | h0
  · skip
    have g1 : (((a : Nat) : Int) == 1) = false := by simp [h0]
    have HK2 := Lib.hid (show G2 R bs p1 d1 (bindP (smallP 12) fun f => bindP (smallP 12) fun n => bindP (numP true 0) fun q => bindP (textP 1800) fun x => bindP (Pk.finP ⟨false, f, n, q, x⟩) fun p => bindP (smallP 4294967295) fun s => pureP (p, s)) from HK1.out.eq fun t => by subst h0; rfl)
    clear HK1 h0
    go_upto_region 3 with (first | (refine wpList_build_lit (rpc (⟨false, 0, 0, 0, []⟩ : Pk.Pt)).toArray rfl 37 _ rfl (built_rpk false) ?_) | (refine wpList_store_blk rfl 37 _ _ rfl w1.heap.size 37 zrpA (rpc (⟨false, 0, 0, 0, []⟩ : Pk.Pt)).toArray rfl rfl (Blk.new' rfl) (rpinfoA _) (zrp_siz _) (rpc_one _) ?_; intro hy))
    have hbn : Below w1.heap.size w1 ((w1.alloc (.cells zrpA 37)).setRow w1.heap.size (rpc (⟨false, 0, 0, 0, []⟩ : Pk.Pt)).toArray) := below_setRow ((Below.refl _ _).alloc (Nat.le_refl _) _) (Nat.le_refl _) _
    obtain ⟨w2, hw2⟩ : ∃ w2, w2 = (w1.alloc (.cells zrpA 37)).setRow w1.heap.size (rpc (⟨false, 0, 0, 0, []⟩ : Pk.Pt)).toArray := ⟨_, rfl⟩
    rw [← hw2] at hbn hy ⊢
    obtain ⟨c, hcE⟩ : ∃ c, c = w1.heap.size := ⟨_, rfl⟩
    rw [← hcE] at hy ⊢
    have HD2 := Lib.hid (show RdSk W k g c A cc bs w2 p1 d1 (rpc (⟨false, 0, 0, 0, []⟩ : Pk.Pt)) from by
      have h1 := HKE.out.1
      have h2 := HKE.out.2
      have h3 := HB1.out.size
      have h4 := HS1.out.1.lt
      have h5 := HG1.out.lt
      exact ⟨HS1.out.next hbn, HG1.out.next hbn, hy, HB1.out.trans (hbn.mono HB1.out.size), by omega, by omega, by omega, by omega, by omega, fun hne b q e => by have := HLOW.out hne b q e; omega⟩)
    clear hw2 hbn hy hcE HS1 HG1 HB1 g1
    go_wp2_with fail
    refine (refsmall_any k cc A bs hlen hby 12 (by decide) p1 d1 w2 HD2.out.s).mono ?_
    rintro r w3 ⟨f, p2, d2, rfl, hS, hO, _, hP⟩
    have HK3 := Lib.hid (HK2.out.step hP)
    have HD3 := Lib.hid (HD2.out.read hO hS)
    clear hP hO hS HD2 HK2
    have hkA : w3.cell? ⟨c, 1, none⟩ = some (.int .i64 0) := HD3.out.at' 1 _ (by rw [rpc_def]; rfl)
    have hfA := HD3.out.c0.frozen 1
    have HD4 := Lib.hid (HD3.out.cell 1 (.int .i64 (f : Nat)) (cs' := rpc (⟨false, f, 0, 0, []⟩ : Pk.Pt)) (by rw [rpc_def, rpc_def]; rfl))
    go_upto_region 4 with fail
    obtain ⟨w4, hw⟩ : ∃ w4, w4 = w3.setCell ⟨c, 1, none⟩ (.int .i64 (f : Nat)) := ⟨_, rfl⟩
    rw [← hw] at HD4 ⊢
    clear hw hkA hfA HD3
    go_wp2_with fail
    refine (refsmall_any k cc A bs hlen hby 12 (by decide) p2 d2 w4 HD4.out.s).mono ?_
    rintro r w5 ⟨t, p3, d3, rfl, hS, hO, _, hP⟩
    have HK4 := Lib.hid (HK3.out.step hP)
    have HD5 := Lib.hid (HD4.out.read hO hS)
    clear hP hO hS HD4 HK3
    have hkA : w5.cell? ⟨c, 2, none⟩ = some (.int .i64 0) := HD5.out.at' 2 _ (by rw [rpc_def]; rfl)
    have hfA := HD5.out.c0.frozen 2
    have HD6 := Lib.hid (HD5.out.cell 2 (.int .i64 (t : Nat)) (cs' := rpc (⟨false, f, t, 0, []⟩ : Pk.Pt)) (by rw [rpc_def, rpc_def]; rfl))
    go_upto_region 5 with fail
    obtain ⟨w6, hw⟩ : ∃ w6, w6 = w5.setCell ⟨c, 2, none⟩ (.int .i64 (t : Nat)) := ⟨_, rfl⟩
    rw [← hw] at HD6 ⊢
    clear hw hkA hfA HD5
    go_wp2_with fail
    refine (refnumA k cc A bs hlen hby p3 d3 w6 HD6.out.s).mono ?_
    rintro r w7 ⟨q, p4, d4, rfl, hS, hO, hP⟩
    have HK5 := Lib.hid (HK4.out.step hP)
    have HD7 := Lib.hid (HD6.out.read hO hS)
    clear hP hO hS HD6 HK4
    have hkA : w7.cell? ⟨c, 3, none⟩ = some (.int .u64 ((0 : Nat) : Int)) := HD7.out.at' 3 _ (by rw [rpc_def]; rfl)
    have hfA := HD7.out.c0.frozen 3
    have HD8 := Lib.hid (HD7.out.cell 3 (.int .u64 (q : Nat)) (cs' := rpc (⟨false, f, t, q, []⟩ : Pk.Pt)) (by rw [rpc_def, rpc_def]; rfl))
    go_upto_region 6 with fail
    obtain ⟨w8, hw⟩ : ∃ w8, w8 = w7.setCell ⟨c, 3, none⟩ (.int .u64 (q : Nat)) := ⟨_, rfl⟩
    rw [← hw] at HD8 ⊢
    clear hw hkA hfA HD7
    have c0 : World.cell? w8 ⟨c, 0, none⟩ = some (.bool false) := HD8.out.at' 0 _ (by rw [rpc_def]; rfl)
    go_upto_region 7 with fail
    clear c0
    go_wp2_with fail
    refine (reftext_any k cc A bs hlen hc hby 1800 (by decide) p4 d4 w8 HD8.out.s).mono ?_
    rintro r w9 ⟨v, p5, d5, rfl, hS, hO, x, A', cx, rfl, hxc, hxr, hxn, hx256, hxm, hP⟩
    have HK6 := Lib.hid (HK5.out.step hP)
    have HD9 := Lib.hid (HD8.out.read hO hS)
    have HX := Lib.hid hx256
    obtain ⟨nx, hnx⟩ : ∃ nx, x.length = nx := ⟨_, rfl⟩
    have cv := conv_byr (c := cx) hxr hxn hx256 hnx
    rw [hnx]
    clear hP hO hS HD8 HK5 hxc hxr hxn hx256 hxm hnx
    have hkA : w9.cell? ⟨c, 4, none⟩ = some (.string (Byt.bstr [])) := HD9.out.at' 4 _ (by rw [rpc_def]; rfl)
    have hfA := HD9.out.c0.frozen 4
    have HD10 := Lib.hid (HD9.out.cell 4 (.string (Byt.bstr x)) (cs' := rpc (⟨false, f, t, q, x⟩ : Pk.Pt)) (by rw [rpc_def, rpc_def]; rfl))
    go_upto_region 8 with fail
    obtain ⟨w10, hw⟩ : ∃ w10, w10 = w9.setCell ⟨c, 4, none⟩ (.string (Byt.bstr x)) := ⟨_, rfl⟩
    rw [← hw] at HD10 ⊢
    clear hw hkA hfA HD9
    clear cv
    obtain ⟨m, hm⟩ : ∃ m : Pk.Pt, m = (⟨false, f, t, q, x⟩ : Pk.Pt) := ⟨_, rfl⟩
    have HX := Lib.hid (show ∀ y ∈ m.bs, y < 256 by rw [hm]; exact HX.out)
    rw [← hm] at HD10 HK6
    clear hm
    obtain ⟨cx0, cx1, cx2, cx3⟩ := HD10.out.s.cells
    have rgx := HD10.out.c0.range
    by_cases hd0 : d5 = 0
    · have f1 : (d5 == 0) = true := by simpa using hd0
      have HRR := Lib.hid (fun w => rright15_any m w HX.out)
      rcases hrm : Pk.rightB m with _ | _
      · rw [hrm] at HRR
        have HBD := Lib.hid (show ∀ x, R ≠ .ok (x, []) from fun x hx => by
          rw [HK6.out.1 hd0, bindP_err (show Pk.finP m (bs.drop p5) = .error 3 from by unfold Pk.finP; rw [hrm]; rfl)] at hx; cases hx)
        clear hd0 hrm HK6
        go_wp2_with (first | (refine wpList_load_midg (by rfl) 37 _ rfl _ _ rfl (rpc ?_) _ ?_ Tryz.underlying37 rfl (rpinfo _) ?_; rotate_left; (focus assumption)) | (refine wpList_build_lit (rpc zp).toArray rfl 37 _ rfl built_rp0 ?_) | (refine wpList_store_blk rfl 37 _ _ rfl g 37 zrpA (rpc zp).toArray rfl rfl BG (rpinfoA _) (zrp_siz _) (rpc_one _) ?_; intro hrow) | (go_at_call 41; refine (HRR.out _).mono ?_; rintro r w21 ⟨rfl, hb⟩; have HD21 := Lib.hid (HD10.out.next hb); have BG := HD21.out.g0; clear hb rgx HRR))
        refine bodyPost_row2 (t := 37) (rpc zp) (.int .i64 3) rfl rfl rfl rfl Tryz.underlying37 rfl (rpinfo _) hrow ?_
        exact ⟨zp, 3, rfl, below_setRow HD21.out.b (Nat.le_of_eq HKE.out.2.symm) _, RdK.no (fun x => by rw [← HR.out]; exact HBD.out x) (by decide), (fun y hy => by cases hy)⟩
      · rw [hrm] at HRR
        have HRT := Lib.hid (rt_of hrm)
        have HK7 := Lib.hid (show G2 R bs p5 d5 (bindP (smallP 4294967295) fun s => pureP (m, s)) from ⟨fun h => (HK6.out.1 h).trans (bindP_ok (show Pk.finP m (bs.drop p5) = .ok (m, bs.drop p5) from by unfold Pk.finP; rw [hrm]; rfl)), fun h => absurd hd0 h⟩)
        clear hd0 hrm HK6
        go_upto_region 10 with (first | (refine wpList_load_midg (by rfl) 37 _ rfl _ _ rfl (rpc ?_) _ ?_ Tryz.underlying37 rfl (rpinfo _) ?_; rotate_left; (focus assumption)) | (go_at_call 41; refine (HRR.out _).mono ?_; rintro r w21 ⟨rfl, hb⟩; have HD21 := Lib.hid (HD10.out.next hb); clear hb rgx HRR))
        clear f1 cx0 cx1 cx2 cx3 HD10
        go_wp2_with fail
        refine (refsmall_any k cc A bs hlen hby 4294967295 (by decide) p5 d5 w21 HD21.out.s).mono ?_
        rintro r w22 ⟨s, p6, d6, rfl, hS, hO, hs, hP⟩
        have HK8 := Lib.hid (HK7.out.step hP)
        have HD22 := Lib.hid (HD21.out.read hO hS)
        have es : IntKind.u64.wrap ((s : Nat) : Int) = (s : Nat) := by rw [IntKind.wrap_u64]; omega
        clear hs
        clear hP hO hS HD21 HK7
        go_upto_region 11 with fail
        go_wp2_with fail
        refine (refend_any k cc A bs p6 d6 w22 HD22.out.s).mono ?_
        rintro r w23 ⟨z, rfl, hb, hz⟩
        have HD23 := Lib.hid (HD22.out.next hb)
        have HZ := Lib.hid hz
        clear hb hz HD22
        by_cases hz0 : z = 0
        · have f1 : (z != 0) = false := by simpa using hz0
          have HYS := Lib.hid (HK8.out.end_yes HZ.out hz0)
          clear hz0 HK8 HZ
          go_upto_region 13 with fail
          clear f1
          have rgx := HD23.out.c0.range
          have HE := Lib.hid (Pk.encB_256 HX.out)
          have HEL := Lib.hid (Pk.encB_len HRT.out)
          have hcl := Crc.sum_lt HE.out
          obtain ⟨E, hE⟩ : ∃ E, E = Pk.encB m := ⟨_, rfl⟩
          have HBD := Lib.hid (fun w => rbody15_any m HRT.out HX.out w)
          rw [← hE] at HE HEL hcl HBD
          obtain ⟨u, hu⟩ : ∃ u, u = Crc.sum E := ⟨_, rfl⟩
          have HU := Lib.hid (show u = Crc.sum (Pk.encB m) by rw [hu, hE])
          have HUE := Lib.hid hu
          rw [← hu] at hcl
          have eu : IntKind.u64.wrap ((u : Nat) : Int) = (u : Nat) := by rw [IntKind.wrap_u64]; omega
          clear hE hu hcl
          by_cases hsu : s = u
          · have e1 : (((s : Nat) : Int) != (u : Nat)) = false := by simp [hsu]
            have HSU := Lib.hid hsu
            clear hsu
            go_wp2_with (first | (refine wpList_load_midg (by rfl) 37 _ rfl _ _ rfl (rpc ?_) _ ?_ Tryz.underlying37 rfl (rpinfo _) ?_; rotate_left; (focus assumption)) | (go_at_call 77; refine (HBD.out _).mono ?_; rintro r w24 ⟨v1, rfl, hM⟩; have HO1 := Lib.hid (Own8.first hM); have HD24 := Lib.hid (HD23.out.next hM.2); have HBE := Lib.hid (rof_any v1 E w24 (Pk.own_bytes hM.1 HE.out) (by have := HEL.out; omega)); clear hM rgx HBD) | (go_at_call 78; rw [← HUE.out] at HBE; refine HBE.out.mono ?_; rintro r w25 ⟨rfl, rfl⟩; have rgy := HD24.out.c0.range; have BG := HD24.out.g0) | (refine wpList_store_blk rfl 37 _ _ rfl g 37 zrpA (rpc m).toArray rfl rfl BG (rpinfoA _) (zrp_siz _) (rpc_one _) ?_; intro hrow))
            refine bodyPost_row2 (t := 37) (rpc m) (.int .i64 0) rfl rfl rfl rfl Tryz.underlying37 rfl (rpinfo _) hrow ?_
            exact ⟨m, 0, rfl, below_setRow HD24.out.b (Nat.le_of_eq HKE.out.2.symm) _, RdK.yes (HR.out.symm.trans HYS.out) (HSU.out.trans HU.out), HX.out⟩
          · have e1 : (((s : Nat) : Int) != (u : Nat)) = true := by simp; omega
            have HSU := Lib.hid hsu
            clear hsu
            go_wp2_with (first | (refine wpList_load_midg (by rfl) 37 _ rfl _ _ rfl (rpc ?_) _ ?_ Tryz.underlying37 rfl (rpinfo _) ?_; rotate_left; (focus assumption)) | (go_at_call 77; refine (HBD.out _).mono ?_; rintro r w24 ⟨v1, rfl, hM⟩; have HO1 := Lib.hid (Own8.first hM); have HD24 := Lib.hid (HD23.out.next hM.2); have HBE := Lib.hid (rof_any v1 E w24 (Pk.own_bytes hM.1 HE.out) (by have := HEL.out; omega)); clear hM rgx HBD) | (go_at_call 78; rw [← HUE.out] at HBE; refine HBE.out.mono ?_; rintro r w25 ⟨rfl, rfl⟩; have BG := HD24.out.g0) | (refine wpList_build_lit (rpc zp).toArray rfl 37 _ rfl built_rp0 ?_) | (refine wpList_store_blk rfl 37 _ _ rfl g 37 zrpA (rpc zp).toArray rfl rfl BG (rpinfoA _) (zrp_siz _) (rpc_one _) ?_; intro hrow))
            refine bodyPost_row2 (t := 37) (rpc zp) (.int .i64 9) rfl rfl rfl rfl Tryz.underlying37 rfl (rpinfo _) hrow ?_
            exact ⟨zp, 9, rfl, below_setRow HD24.out.b (Nat.le_of_eq HKE.out.2.symm) _, RdK.sum (HR.out.symm.trans HYS.out) (fun h => HSU.out (h.trans HU.out.symm)) (by decide), (fun y hy => by cases hy)⟩
        · have f1 : (z != 0) = true := by simpa using hz0
          have HNO := Lib.hid (HK8.out.end_no HZ.out hz0)
          have BG := HD23.out.g0
          clear hz0 HK8 HZ
          go_wp2_with (first | (refine wpList_build_lit (rpc zp).toArray rfl 37 _ rfl built_rp0 ?_) | (refine wpList_store_blk rfl 37 _ _ rfl g 37 zrpA (rpc zp).toArray rfl rfl BG (rpinfoA _) (zrp_siz _) (rpc_one _) ?_; intro hrow))
          refine bodyPost_row2 (t := 37) (rpc zp) (.int .i64 3) rfl rfl rfl rfl Tryz.underlying37 rfl (rpinfo _) hrow ?_
          exact ⟨zp, 3, rfl, below_setRow HD23.out.b (Nat.le_of_eq HKE.out.2.symm) _, RdK.no (fun x => by rw [← HR.out]; exact HNO.out x) (by decide), (fun y hy => by cases hy)⟩
    · have f1 : (d5 == 0) = false := by simpa using hd0
      have HNO := Lib.hid (HK6.out.nil hd0)
      have HD0 := Lib.hid hd0
      clear hd0 HK6
      go_upto_region 10 with fail
      clear f1 cx0 cx1 cx2 cx3 rgx
      go_wp2_with fail
      refine (refsmall_any k cc A bs hlen hby 4294967295 (by decide) p5 d5 w10 HD10.out.s).mono ?_
      rintro r w22 ⟨s, p6, d6, rfl, hS, hO, hs, hP⟩
      have HD22 := Lib.hid (HD10.out.read hO hS)
      have HD6 := Lib.hid (hP.1 HD0.out)
      clear hP hO hS hs HD10
      go_upto_region 11 with fail
      go_wp2_with fail
      refine (refend_any k cc A bs p6 d6 w22 HD22.out.s).mono ?_
      rintro r w23 ⟨z, rfl, hb, hz⟩
      have HD23 := Lib.hid (HD22.out.next hb)
      have hz0 : z ≠ 0 := fun h => HD6.out (hz.1 h).1
      have f1 : (z != 0) = true := by simpa using hz0
      have BG := HD23.out.g0
      clear hb hz HD22 hz0
      go_wp2_with (first | (refine wpList_build_lit (rpc zp).toArray rfl 37 _ rfl built_rp0 ?_) | (refine wpList_store_blk rfl 37 _ _ rfl g 37 zrpA (rpc zp).toArray rfl rfl BG (rpinfoA _) (zrp_siz _) (rpc_one _) ?_; intro hrow))
      refine bodyPost_row2 (t := 37) (rpc zp) (.int .i64 3) rfl rfl rfl rfl Tryz.underlying37 rfl (rpinfo _) hrow ?_
      exact ⟨zp, 3, rfl, below_setRow HD23.out.b (Nat.le_of_eq HKE.out.2.symm) _, RdK.no (fun x => by rw [← HR.out]; exact HNO.out x) (by decide), (fun y hy => by cases hy)⟩
  · skip
    have g1 : (((a : Nat) : Int) == 1) = true := by simp [h0]
    have HK2 := Lib.hid (show G2 R bs p1 d1 (bindP (smallP 12) fun f => bindP (smallP 12) fun n => bindP (numP true 0) fun q => bindP (pureP []) fun x => bindP (Pk.finP ⟨true, f, n, q, x⟩) fun p => bindP (smallP 4294967295) fun s => pureP (p, s)) from HK1.out.eq fun t => by subst h0; rfl)
    clear HK1 h0
    go_upto_region 3 with (first | (refine wpList_build_lit (rpc (⟨true, 0, 0, 0, []⟩ : Pk.Pt)).toArray rfl 37 _ rfl (built_rpk true) ?_) | (refine wpList_store_blk rfl 37 _ _ rfl w1.heap.size 37 zrpA (rpc (⟨true, 0, 0, 0, []⟩ : Pk.Pt)).toArray rfl rfl (Blk.new' rfl) (rpinfoA _) (zrp_siz _) (rpc_one _) ?_; intro hy))
    have hbn : Below w1.heap.size w1 ((w1.alloc (.cells zrpA 37)).setRow w1.heap.size (rpc (⟨true, 0, 0, 0, []⟩ : Pk.Pt)).toArray) := below_setRow ((Below.refl _ _).alloc (Nat.le_refl _) _) (Nat.le_refl _) _
    obtain ⟨w2, hw2⟩ : ∃ w2, w2 = (w1.alloc (.cells zrpA 37)).setRow w1.heap.size (rpc (⟨true, 0, 0, 0, []⟩ : Pk.Pt)).toArray := ⟨_, rfl⟩
    rw [← hw2] at hbn hy ⊢
    obtain ⟨c, hcE⟩ : ∃ c, c = w1.heap.size := ⟨_, rfl⟩
    rw [← hcE] at hy ⊢
    have HD2 := Lib.hid (show RdSk W k g c A cc bs w2 p1 d1 (rpc (⟨true, 0, 0, 0, []⟩ : Pk.Pt)) from by
      have h1 := HKE.out.1
      have h2 := HKE.out.2
      have h3 := HB1.out.size
      have h4 := HS1.out.1.lt
      have h5 := HG1.out.lt
      exact ⟨HS1.out.next hbn, HG1.out.next hbn, hy, HB1.out.trans (hbn.mono HB1.out.size), by omega, by omega, by omega, by omega, by omega, fun hne b q e => by have := HLOW.out hne b q e; omega⟩)
    clear hw2 hbn hy hcE HS1 HG1 HB1 g1
    go_wp2_with fail
    refine (refsmall_any k cc A bs hlen hby 12 (by decide) p1 d1 w2 HD2.out.s).mono ?_
    rintro r w3 ⟨f, p2, d2, rfl, hS, hO, _, hP⟩
    have HK3 := Lib.hid (HK2.out.step hP)
    have HD3 := Lib.hid (HD2.out.read hO hS)
    clear hP hO hS HD2 HK2
    have hkA : w3.cell? ⟨c, 1, none⟩ = some (.int .i64 0) := HD3.out.at' 1 _ (by rw [rpc_def]; rfl)
    have hfA := HD3.out.c0.frozen 1
    have HD4 := Lib.hid (HD3.out.cell 1 (.int .i64 (f : Nat)) (cs' := rpc (⟨true, f, 0, 0, []⟩ : Pk.Pt)) (by rw [rpc_def, rpc_def]; rfl))
    go_upto_region 4 with fail
    obtain ⟨w4, hw⟩ : ∃ w4, w4 = w3.setCell ⟨c, 1, none⟩ (.int .i64 (f : Nat)) := ⟨_, rfl⟩
    rw [← hw] at HD4 ⊢
    clear hw hkA hfA HD3
    go_wp2_with fail
    refine (refsmall_any k cc A bs hlen hby 12 (by decide) p2 d2 w4 HD4.out.s).mono ?_
    rintro r w5 ⟨t, p3, d3, rfl, hS, hO, _, hP⟩
    have HK4 := Lib.hid (HK3.out.step hP)
    have HD5 := Lib.hid (HD4.out.read hO hS)
    clear hP hO hS HD4 HK3
    have hkA : w5.cell? ⟨c, 2, none⟩ = some (.int .i64 0) := HD5.out.at' 2 _ (by rw [rpc_def]; rfl)
    have hfA := HD5.out.c0.frozen 2
    have HD6 := Lib.hid (HD5.out.cell 2 (.int .i64 (t : Nat)) (cs' := rpc (⟨true, f, t, 0, []⟩ : Pk.Pt)) (by rw [rpc_def, rpc_def]; rfl))
    go_upto_region 5 with fail
    obtain ⟨w6, hw⟩ : ∃ w6, w6 = w5.setCell ⟨c, 2, none⟩ (.int .i64 (t : Nat)) := ⟨_, rfl⟩
    rw [← hw] at HD6 ⊢
    clear hw hkA hfA HD5
    go_wp2_with fail
    refine (refnumA k cc A bs hlen hby p3 d3 w6 HD6.out.s).mono ?_
    rintro r w7 ⟨q, p4, d4, rfl, hS, hO, hP⟩
    have HK5 := Lib.hid (HK4.out.step hP)
    have HD7 := Lib.hid (HD6.out.read hO hS)
    clear hP hO hS HD6 HK4
    have hkA : w7.cell? ⟨c, 3, none⟩ = some (.int .u64 ((0 : Nat) : Int)) := HD7.out.at' 3 _ (by rw [rpc_def]; rfl)
    have hfA := HD7.out.c0.frozen 3
    have HD8 := Lib.hid (HD7.out.cell 3 (.int .u64 (q : Nat)) (cs' := rpc (⟨true, f, t, q, []⟩ : Pk.Pt)) (by rw [rpc_def, rpc_def]; rfl))
    go_upto_region 6 with fail
    obtain ⟨w8, hw⟩ : ∃ w8, w8 = w7.setCell ⟨c, 3, none⟩ (.int .u64 (q : Nat)) := ⟨_, rfl⟩
    rw [← hw] at HD8 ⊢
    clear hw hkA hfA HD7
    have c0 : World.cell? w8 ⟨c, 0, none⟩ = some (.bool true) := HD8.out.at' 0 _ (by rw [rpc_def]; rfl)
    have HX := Lib.hid (show ∀ y ∈ ([] : List Nat), y < 256 from fun y hy => by cases hy)
    have HK6 := Lib.hid (show G2 R bs p4 d4 (bindP (Pk.finP (⟨true, f, t, q, []⟩ : Pk.Pt)) fun p => bindP (smallP 4294967295) fun s => pureP (p, s)) from HK5.out.eq fun t => rfl)
    clear HK5
    go_upto_region 8 with fail
    clear c0
    obtain ⟨m, hm⟩ : ∃ m : Pk.Pt, m = (⟨true, f, t, q, []⟩ : Pk.Pt) := ⟨_, rfl⟩
    have HX := Lib.hid (show ∀ y ∈ m.bs, y < 256 by rw [hm]; exact HX.out)
    rw [← hm] at HD8 HK6
    clear hm
    obtain ⟨cx0, cx1, cx2, cx3⟩ := HD8.out.s.cells
    have rgx := HD8.out.c0.range
    by_cases hd0 : d4 = 0
    · have f1 : (d4 == 0) = true := by simpa using hd0
      have HRR := Lib.hid (fun w => rright15_any m w HX.out)
      rcases hrm : Pk.rightB m with _ | _
      · rw [hrm] at HRR
        have HBD := Lib.hid (show ∀ x, R ≠ .ok (x, []) from fun x hx => by
          rw [HK6.out.1 hd0, bindP_err (show Pk.finP m (bs.drop p4) = .error 3 from by unfold Pk.finP; rw [hrm]; rfl)] at hx; cases hx)
        clear hd0 hrm HK6
        go_wp2_with (first | (refine wpList_load_midg (by rfl) 37 _ rfl _ _ rfl (rpc ?_) _ ?_ Tryz.underlying37 rfl (rpinfo _) ?_; rotate_left; (focus assumption)) | (refine wpList_build_lit (rpc zp).toArray rfl 37 _ rfl built_rp0 ?_) | (refine wpList_store_blk rfl 37 _ _ rfl g 37 zrpA (rpc zp).toArray rfl rfl BG (rpinfoA _) (zrp_siz _) (rpc_one _) ?_; intro hrow) | (go_at_call 41; refine (HRR.out _).mono ?_; rintro r w21 ⟨rfl, hb⟩; have HD21 := Lib.hid (HD8.out.next hb); have BG := HD21.out.g0; clear hb rgx HRR))
        refine bodyPost_row2 (t := 37) (rpc zp) (.int .i64 3) rfl rfl rfl rfl Tryz.underlying37 rfl (rpinfo _) hrow ?_
        exact ⟨zp, 3, rfl, below_setRow HD21.out.b (Nat.le_of_eq HKE.out.2.symm) _, RdK.no (fun x => by rw [← HR.out]; exact HBD.out x) (by decide), (fun y hy => by cases hy)⟩
      · rw [hrm] at HRR
        have HRT := Lib.hid (rt_of hrm)
        have HK7 := Lib.hid (show G2 R bs p4 d4 (bindP (smallP 4294967295) fun s => pureP (m, s)) from ⟨fun h => (HK6.out.1 h).trans (bindP_ok (show Pk.finP m (bs.drop p4) = .ok (m, bs.drop p4) from by unfold Pk.finP; rw [hrm]; rfl)), fun h => absurd hd0 h⟩)
        clear hd0 hrm HK6
        go_upto_region 10 with (first | (refine wpList_load_midg (by rfl) 37 _ rfl _ _ rfl (rpc ?_) _ ?_ Tryz.underlying37 rfl (rpinfo _) ?_; rotate_left; (focus assumption)) | (go_at_call 41; refine (HRR.out _).mono ?_; rintro r w21 ⟨rfl, hb⟩; have HD21 := Lib.hid (HD8.out.next hb); clear hb rgx HRR))
        clear f1 cx0 cx1 cx2 cx3 HD8
        go_wp2_with fail
        refine (refsmall_any k cc A bs hlen hby 4294967295 (by decide) p4 d4 w21 HD21.out.s).mono ?_
        rintro r w22 ⟨s, p6, d6, rfl, hS, hO, hs, hP⟩
        have HK8 := Lib.hid (HK7.out.step hP)
        have HD22 := Lib.hid (HD21.out.read hO hS)
        have es : IntKind.u64.wrap ((s : Nat) : Int) = (s : Nat) := by rw [IntKind.wrap_u64]; omega
        clear hs
        clear hP hO hS HD21 HK7
        go_upto_region 11 with fail
        go_wp2_with fail
        refine (refend_any k cc A bs p6 d6 w22 HD22.out.s).mono ?_
        rintro r w23 ⟨z, rfl, hb, hz⟩
        have HD23 := Lib.hid (HD22.out.next hb)
        have HZ := Lib.hid hz
        clear hb hz HD22
        by_cases hz0 : z = 0
        · have f1 : (z != 0) = false := by simpa using hz0
          have HYS := Lib.hid (HK8.out.end_yes HZ.out hz0)
          clear hz0 HK8 HZ
          go_upto_region 13 with fail
          clear f1
          have rgx := HD23.out.c0.range
          have HE := Lib.hid (Pk.encB_256 HX.out)
          have HEL := Lib.hid (Pk.encB_len HRT.out)
          have hcl := Crc.sum_lt HE.out
          obtain ⟨E, hE⟩ : ∃ E, E = Pk.encB m := ⟨_, rfl⟩
          have HBD := Lib.hid (fun w => rbody15_any m HRT.out HX.out w)
          rw [← hE] at HE HEL hcl HBD
          obtain ⟨u, hu⟩ : ∃ u, u = Crc.sum E := ⟨_, rfl⟩
          have HU := Lib.hid (show u = Crc.sum (Pk.encB m) by rw [hu, hE])
          have HUE := Lib.hid hu
          rw [← hu] at hcl
          have eu : IntKind.u64.wrap ((u : Nat) : Int) = (u : Nat) := by rw [IntKind.wrap_u64]; omega
          clear hE hu hcl
          by_cases hsu : s = u
          · have e1 : (((s : Nat) : Int) != (u : Nat)) = false := by simp [hsu]
            have HSU := Lib.hid hsu
            clear hsu
            go_wp2_with (first | (refine wpList_load_midg (by rfl) 37 _ rfl _ _ rfl (rpc ?_) _ ?_ Tryz.underlying37 rfl (rpinfo _) ?_; rotate_left; (focus assumption)) | (go_at_call 77; refine (HBD.out _).mono ?_; rintro r w24 ⟨v1, rfl, hM⟩; have HO1 := Lib.hid (Own8.first hM); have HD24 := Lib.hid (HD23.out.next hM.2); have HBE := Lib.hid (rof_any v1 E w24 (Pk.own_bytes hM.1 HE.out) (by have := HEL.out; omega)); clear hM rgx HBD) | (go_at_call 78; rw [← HUE.out] at HBE; refine HBE.out.mono ?_; rintro r w25 ⟨rfl, rfl⟩; have rgy := HD24.out.c0.range; have BG := HD24.out.g0) | (refine wpList_store_blk rfl 37 _ _ rfl g 37 zrpA (rpc m).toArray rfl rfl BG (rpinfoA _) (zrp_siz _) (rpc_one _) ?_; intro hrow))
            refine bodyPost_row2 (t := 37) (rpc m) (.int .i64 0) rfl rfl rfl rfl Tryz.underlying37 rfl (rpinfo _) hrow ?_
            exact ⟨m, 0, rfl, below_setRow HD24.out.b (Nat.le_of_eq HKE.out.2.symm) _, RdK.yes (HR.out.symm.trans HYS.out) (HSU.out.trans HU.out), HX.out⟩
          · have e1 : (((s : Nat) : Int) != (u : Nat)) = true := by simp; omega
            have HSU := Lib.hid hsu
            clear hsu
            go_wp2_with (first | (refine wpList_load_midg (by rfl) 37 _ rfl _ _ rfl (rpc ?_) _ ?_ Tryz.underlying37 rfl (rpinfo _) ?_; rotate_left; (focus assumption)) | (go_at_call 77; refine (HBD.out _).mono ?_; rintro r w24 ⟨v1, rfl, hM⟩; have HO1 := Lib.hid (Own8.first hM); have HD24 := Lib.hid (HD23.out.next hM.2); have HBE := Lib.hid (rof_any v1 E w24 (Pk.own_bytes hM.1 HE.out) (by have := HEL.out; omega)); clear hM rgx HBD) | (go_at_call 78; rw [← HUE.out] at HBE; refine HBE.out.mono ?_; rintro r w25 ⟨rfl, rfl⟩; have BG := HD24.out.g0) | (refine wpList_build_lit (rpc zp).toArray rfl 37 _ rfl built_rp0 ?_) | (refine wpList_store_blk rfl 37 _ _ rfl g 37 zrpA (rpc zp).toArray rfl rfl BG (rpinfoA _) (zrp_siz _) (rpc_one _) ?_; intro hrow))
            refine bodyPost_row2 (t := 37) (rpc zp) (.int .i64 9) rfl rfl rfl rfl Tryz.underlying37 rfl (rpinfo _) hrow ?_
            exact ⟨zp, 9, rfl, below_setRow HD24.out.b (Nat.le_of_eq HKE.out.2.symm) _, RdK.sum (HR.out.symm.trans HYS.out) (fun h => HSU.out (h.trans HU.out.symm)) (by decide), (fun y hy => by cases hy)⟩
        · have f1 : (z != 0) = true := by simpa using hz0
          have HNO := Lib.hid (HK8.out.end_no HZ.out hz0)
          have BG := HD23.out.g0
          clear hz0 HK8 HZ
          go_wp2_with (first | (refine wpList_build_lit (rpc zp).toArray rfl 37 _ rfl built_rp0 ?_) | (refine wpList_store_blk rfl 37 _ _ rfl g 37 zrpA (rpc zp).toArray rfl rfl BG (rpinfoA _) (zrp_siz _) (rpc_one _) ?_; intro hrow))
          refine bodyPost_row2 (t := 37) (rpc zp) (.int .i64 3) rfl rfl rfl rfl Tryz.underlying37 rfl (rpinfo _) hrow ?_
          exact ⟨zp, 3, rfl, below_setRow HD23.out.b (Nat.le_of_eq HKE.out.2.symm) _, RdK.no (fun x => by rw [← HR.out]; exact HNO.out x) (by decide), (fun y hy => by cases hy)⟩
    · have f1 : (d4 == 0) = false := by simpa using hd0
      have HNO := Lib.hid (HK6.out.nil hd0)
      have HD0 := Lib.hid hd0
      clear hd0 HK6
      go_upto_region 10 with fail
      clear f1 cx0 cx1 cx2 cx3 rgx
      go_wp2_with fail
      refine (refsmall_any k cc A bs hlen hby 4294967295 (by decide) p4 d4 w8 HD8.out.s).mono ?_
      rintro r w22 ⟨s, p6, d6, rfl, hS, hO, hs, hP⟩
      have HD22 := Lib.hid (HD8.out.read hO hS)
      have HD6 := Lib.hid (hP.1 HD0.out)
      clear hP hO hS hs HD8
      go_upto_region 11 with fail
      go_wp2_with fail
      refine (refend_any k cc A bs p6 d6 w22 HD22.out.s).mono ?_
      rintro r w23 ⟨z, rfl, hb, hz⟩
      have HD23 := Lib.hid (HD22.out.next hb)
      have hz0 : z ≠ 0 := fun h => HD6.out (hz.1 h).1
      have f1 : (z != 0) = true := by simpa using hz0
      have BG := HD23.out.g0
      clear hb hz HD22 hz0
      go_wp2_with (first | (refine wpList_build_lit (rpc zp).toArray rfl 37 _ rfl built_rp0 ?_) | (refine wpList_store_blk rfl 37 _ _ rfl g 37 zrpA (rpc zp).toArray rfl rfl BG (rpinfoA _) (zrp_siz _) (rpc_one _) ?_; intro hrow))
      refine bodyPost_row2 (t := 37) (rpc zp) (.int .i64 3) rfl rfl rfl rfl Tryz.underlying37 rfl (rpinfo _) hrow ?_
      exact ⟨zp, 3, rfl, below_setRow HD23.out.b (Nat.le_of_eq HKE.out.2.symm) _, RdK.no (fun x => by rw [← HR.out]; exact HNO.out x) (by decide), (fun y hy => by cases hy)⟩
end In
end Go.Proofs.YtgnfachjobohoaaGreat
namespace Go.Proofs.YtgnfachjobohoaaGreat
open Go.RowKit
set_option linter.unusedSimpArgs false
set_option linter.unusedVariables false
namespace In
theorem OpR.plain_len_ {o : OpR} : o.plain.length = 4 := plain_len
theorem OpR.plain_ones_ (o : OpR) : ∀ v ∈ o.plain, v.oneCell' = true := fun v hv => Array.all_eq_true'.1 (plain_one o) v (by simpa using hv)
def Iv.rc (m : Iv) : List Value := m.hd ++ (vl m.f ++ ([.int .u64 (m.t : Nat)] ++ (m.o.plain ++ (rpc m.x.p))))
theorem riv_len (m : Iv) : m.rc.length = 26 := by unfold Iv.rc; simp only [List.length_append, hd_len, vl_len, OpR.plain_len_, rpc_len, List.length_cons, List.length_nil]
theorem riv_def (m : Iv) : m.rc = m.hd ++ (vl m.f ++ ([.int .u64 (m.t : Nat)] ++ (m.o.plain ++ (rpc m.x.p)))) := by unfold Iv.rc; rfl
theorem riv_0 (m : Iv) (j : Nat) (h : j < 4) : m.rc[j]? = m.hd[j]? := by
  unfold Iv.rc
  rw [List.getElem?_append_left (by rw [hd_len]; exact h)]
theorem riv_f (m : Iv) (j : Nat) (h : j < 12) : m.rc[4 + j]? = (vl m.f)[j]? := by
  unfold Iv.rc
  exact mid_get (hd_len m) (vl_len m.f) j h
theorem riv_t (m : Iv) : m.rc[16]? = some (.int .u64 (m.t : Nat)) := by
  unfold Iv.rc
  rw [← List.append_assoc]
  exact mid_get (o := 16) (by rw [List.length_append, hd_len, vl_len]) (show [Value.int .u64 (m.t : Nat)].length = 1 from rfl) 0 (by omega)
theorem riv_o (m : Iv) (j : Nat) (h : j < 4) : m.rc[17 + j]? = m.o.plain[j]? := by
  unfold Iv.rc
  rw [← List.append_assoc, ← List.append_assoc]
  exact mid_get (by simp only [List.length_append, hd_len, vl_len]; rfl) OpR.plain_len_ j h
theorem riv_x (m : Iv) (j : Nat) : m.rc[21 + j]? = (rpc m.x.p)[j]? := by
  unfold Iv.rc
  rw [← List.append_assoc, ← List.append_assoc, ← List.append_assoc, List.getElem?_append_right (by simp only [List.length_append, hd_len, vl_len, OpR.plain_len_]; simp)]
  simp only [List.length_append, hd_len, vl_len, OpR.plain_len_, List.length_cons, List.length_nil]
  rw [show 21 + j - (4 + 12 + (0 + 1) + 4) = j from by omega]
theorem riv_ones (m : Iv) : ∀ v ∈ m.rc, v.oneCell' = true := by
  intro v hv
  unfold Iv.rc Iv.hd at hv
  simp only [List.mem_append, List.mem_cons, List.not_mem_nil, or_false] at hv
  rcases hv with (rfl | rfl | rfl | rfl) | hv | rfl | hv | hv
  · rfl
  · rfl
  · rfl
  · rfl
  · exact vl_one _ v hv
  · rfl
  · exact OpR.plain_ones_ m.o v hv
  · exact rpc_ones _ v hv
theorem riv_one (m : Iv) : m.rc.toArray.all (·.oneCell') = true := all_oneCell_toArray (riv_ones m)
attribute [irreducible] Iv.rc
theorem rivinfo (m : Iv) : (Tryz.prog.info? 39).map (·.size) = some m.rc.length := by rw [riv_len]; kernel_rfl
theorem rivinfoA (m : Iv) : (Tryz.prog.info? 39).map (·.size) = some m.rc.toArray.size := by rw [List.size_toArray, riv_len]; kernel_rfl
theorem riv_siz (m n : Iv) : m.rc.toArray.size = n.rc.toArray.size := by rw [List.size_toArray, List.size_toArray, riv_len, riv_len]
theorem riv_all {W : World} {b : Nat} {t : TypeId} {m : Iv} (h : Blk W b t m.rc.toArray) :
    W.rangeAt b 0 m.rc ∧ W.rangeAt b 4 (vl m.f) ∧ W.rangeAt b 17 m.o.plain ∧ W.rangeAt b 21 (rpc m.x.p) ∧ W.cell? ⟨b, 0, none⟩ = some (.int .i64 m.k) ∧ W.cell? ⟨b, 1, none⟩ = some (.int .i64 m.ca) ∧ W.cell? ⟨b, 2, none⟩ = some (.int .i64 m.se) ∧ W.cell? ⟨b, 3, none⟩ = some (.int .i64 m.no) ∧ W.cell? ⟨b, 16, none⟩ = some (.int .u64 (m.t : Nat)) := by
  have hc : ∀ i, W.cell? ⟨b, i, none⟩ = m.rc[i]? := fun i => by rw [h.cell, List.getElem?_toArray]
  refine ⟨h.range, fun j v hv => ?_, fun j v hv => ?_, fun j v hv => by rw [hc, riv_x, hv], (hc 0).trans (riv_0 m 0 (by omega)), (hc 1).trans (riv_0 m 1 (by omega)), (hc 2).trans (riv_0 m 2 (by omega)), (hc 3).trans (riv_0 m 3 (by omega)), (hc 16).trans (riv_t m)⟩
  · have hj : j < 12 := by have := (List.getElem?_eq_some_iff.1 hv).1; rwa [vl_len] at this
    rw [hc, riv_f m j hj, hv]
  · have hj : j < 4 := by have := (List.getElem?_eq_some_iff.1 hv).1; rwa [OpR.plain_len_] at this
    rw [hc, riv_o m j hj, hv]
theorem riv_setF {w : World} {g : Nat} {t : TypeId} {m : Iv} (h : Blk w g t m.rc.toArray) (f : Nat → Nat) : Blk (w.setCells g 4 (vl f)) g t ({ m with f := f } : Iv).rc.toArray := by
  rw [riv_def] at h ⊢
  have := Blk.setMid (vl f) m.hd (vl m.f) ([.int .u64 (m.t : Nat)] ++ (m.o.plain ++ (rpc m.x.p))) w (by rw [List.append_assoc]; exact h) (by rw [vl_len, vl_len])
  rw [List.append_assoc] at this
  exact this
theorem riv_setO {w : World} {g : Nat} {t : TypeId} {m : Iv} (h : Blk w g t m.rc.toArray) (o : OpR) : Blk (w.setCells g 17 o.plain) g t ({ m with o := o } : Iv).rc.toArray := by
  rw [riv_def] at h ⊢
  have := Blk.setMid o.plain (m.hd ++ (vl m.f ++ [.int .u64 (m.t : Nat)])) m.o.plain (rpc m.x.p) w (by simpa only [List.append_assoc] using h) (by rw [OpR.plain_len_, OpR.plain_len_])
  rw [show (m.hd ++ (vl m.f ++ ([.int .u64 (m.t : Nat)] : List Value)) : List Value).length = 17 from by simp only [List.length_append, hd_len, vl_len]; rfl] at this
  simp only [List.append_assoc] at this
  exact this
theorem riv_setX {w : World} {g : Nat} {t : TypeId} {m : Iv} (h : Blk w g t m.rc.toArray) (x : Pk.Pt) : Blk (w.setCells g 21 (rpc x)) g t ({ m with x := ⟨x, m.x.A, m.x.c⟩ } : Iv).rc.toArray := by
  rw [riv_def] at h ⊢
  have := Blk.setMid (rpc x) (m.hd ++ (vl m.f ++ ([.int .u64 (m.t : Nat)] ++ m.o.plain))) (rpc m.x.p) [] w (by simpa only [List.append_assoc, List.append_nil] using h) (by rw [rpc_len, rpc_len])
  rw [show (m.hd ++ (vl m.f ++ (([.int .u64 (m.t : Nat)] : List Value) ++ m.o.plain)) : List Value).length = 21 from by simp only [List.length_append, hd_len, vl_len, OpR.plain_len_]; rfl] at this
  simp only [List.append_assoc, List.append_nil] at this
  exact this
theorem riv_setH {w : World} {g : Nat} {t : TypeId} {m n : Iv} {i : Nat} {v : Value} (h : Blk w g t m.rc.toArray) (hi : i < 4) (hn : n.hd = m.hd.set i v) (hf : n.f = m.f) (ht : n.t = m.t) (ho : n.o = m.o) (hx : n.x = m.x) : Blk (w.setCell ⟨g, i, none⟩ v) g t n.rc.toArray := by
  have h1 := h.setCell i v
  rw [riv_def] at h1 ⊢
  rw [hn, hf, ht, ho, hx]
  rw [List.setIfInBounds_toArray, List.set_append_left _ _ (by rw [hd_len]; exact hi)] at h1
  exact h1
theorem riv_setT {w : World} {g : Nat} {t : TypeId} {m : Iv} (h : Blk w g t m.rc.toArray) (n : Nat) : Blk (w.setCell ⟨g, 16, none⟩ (.int .u64 (n : Nat))) g t ({ m with t := n } : Iv).rc.toArray := by
  have h1 := h.setCell 16 (.int .u64 (n : Nat))
  rw [riv_def] at h1 ⊢
  rw [List.setIfInBounds_toArray, List.set_append_right _ _ (by rw [hd_len]; omega), List.set_append_right _ _ (by rw [hd_len, vl_len]; omega), hd_len, vl_len, List.set_append_left _ _ (by simp)] at h1
  exact h1
set_option maxRecDepth 20000 in
set_option maxHeartbeats 8000000 in
theorem packet26_any (k c : Nat) (A : Option Addr) (bs : List Nat) (hlen : bs.length ≤ 140737488355328) (hc : bs.length ≤ c) (hby : ∀ x ∈ bs, x < 256) (p : Nat) (e : Int) (W : World) (h : RS W k A c bs p e) :
    Calls Tryz.prog 27 #[.pointer (some ⟨k, 0, none⟩)] W fun r W' => ∃ (x : Pk.Pt) (p' : Nat) (e' : Int), r = .returned (.agg (rpc x).toArray) ∧ RS W' k A c bs p' e' ∧ Off k W W' ∧ (∀ y ∈ x.bs, y < 256) ∧ PostP pkP bs p p' e e' (fun y => x = y) := by
  have bA := Blk.new W 37 zrpA
  have hb := (Below.refl W.heap.size W).alloc (Nat.le_refl _) (.cells zrpA 37)
  have hk := h.1.lt
  obtain ⟨w0, hw0⟩ : ∃ w0, w0 = W.alloc (.cells zrpA 37) := ⟨_, rfl⟩
  rw [← hw0] at bA hb
  have HW0 := Lib.hid hw0
  obtain ⟨g, hg⟩ : ∃ g, g = W.heap.size := ⟨_, rfl⟩
  have HG := Lib.hid hg
  have HK := Lib.hid hk
  have HA := Lib.hid (show Blk w0 g 37 zrpA by rw [hg]; exact bA)
  have HB := Lib.hid hb
  have HLOW := Lib.hid h.low
  have HS := Lib.hid (h.next hb)
  have HY := Lib.hid (And.intro hlen hby)
  have HT := Lib.hid (reftext_any k c A bs hlen hc hby 1800 (by decide) p e w0 HS.out)
  clear bA hb hw0 h hlen hc hby hk
  go_enter Tryz.func27, Tryz.ntmps27
  go_upto_region 1 with fail
  rw [← HW0.out]
  (try rw [← hg])
  clear HW0 hg
  go_wp2_with fail
  refine HT.out.mono ?_
  rintro r w1 ⟨v, p1, e1, rfl, hS, hO, x, A', cx, rfl, hxc, hxr, hxn, hx256, hxm, hP⟩
  have HRD := Lib.hid (rread15_any A' x.length cx x rfl (by omega) hxc hx256 w1 hxr)
  have HA1 := Lib.hid (hO.blk HA.out (by have := HG.out; have := HK.out; omega))
  have HS1 := Lib.hid hS
  have HO1 := Lib.hid ((Off.ofBelow HB.out).trans hO)
  have HP := Lib.hid (show PostP (textP 1800) bs p p1 e e1 (fun y => x = y) from hP)
  clear hS hO hxc hxr hxn hx256 hxm hP HT HA HB HS
  go_upto_region 2 with fail
  go_wp2_with fail
  refine HRD.out.mono ?_
  rintro r w2 ⟨y, z, rfl, hb2, hR, hy⟩
  have HA2 := Lib.hid (HA1.out.next hb2)
  have HS2 := Lib.hid (HS1.out.next hb2)
  have HO2 := Lib.hid (HO1.out.trans (Off.ofBelow hb2))
  have HR := Lib.hid hR
  have HYB := Lib.hid hy
  clear hb2 hR hy HA1 HS1 HO1 HRD
  go_upto_region 3 with (first | (refine wpList_store_blk rfl 37 _ _ rfl w2.heap.size 37 zrpA (rpc y).toArray rfl rfl (Blk.new' rfl) (rpinfoA _) (zrp_siz _) (rpc_one _) ?_; intro hc2))
  have hbn : Below w2.heap.size w2 ((w2.alloc (.cells zrpA 37)).setRow w2.heap.size (rpc y).toArray) := below_setRow ((Below.refl _ _).alloc (Nat.le_refl _) _) (Nat.le_refl _) _
  obtain ⟨w3, hw3⟩ : ∃ w3, w3 = (w2.alloc (.cells zrpA 37)).setRow w2.heap.size (rpc y).toArray := ⟨_, rfl⟩
  rw [← hw3] at hbn hc2 ⊢
  have hs3 := HS2.out.next hbn
  have ha3 := HA2.out.next hbn
  have ho3 := HO2.out.trans (Off.ofBelow hbn)
  obtain ⟨cb, hcb⟩ : ∃ cb, cb = w2.heap.size := ⟨_, rfl⟩
  rw [← hcb] at hc2 ⊢
  have hck : cb ≠ k := by have := HS2.out.1.lt; omega
  have hcg : cb ≠ g := by have := HA2.out.lt; omega
  have hgk : g ≠ k := by have := HG.out; have := HK.out; omega
  obtain ⟨c0, c1, c2, cz⟩ := hs3.cells
  have z2 := cz 2
  have HALL := Lib.hid (And.intro hs3 (And.intro ha3 (And.intro ho3 (And.intro hc2 (And.intro hck (And.intro hcg hgk))))))
  clear hw3 hbn hcb HS2 HA2 HO2 hs3 ha3 ho3 c0 c1 cz
  by_cases hE : e1 = 0 ∧ z ≠ 0
  · have f1 : (e1 == 0) = true := by simpa using hE.1
    have f2 : (z != 0) = true := by simpa using hE.2
    have HQ := Lib.hid (show PostP pkP bs p p1 e 3 (fun q => y = q) from ⟨fun _ => by decide, fun he => by
      have h3 := HP.out.2 he
      rcases hq : textP 1800 (bs.drop p) with q | ⟨q, t⟩
      · rw [hq] at h3; exact absurd hE.1 h3
      · rw [hq] at h3
        obtain ⟨rfl, -, hd⟩ := h3
        have h4 := HR.out
        unfold RdK at h4
        rcases hp : pkOf x with _ | q
        · have h5 : pkP (bs.drop p) = .error 3 := by rw [pkP_def, bindP_ok hq]; unfold mkK; rw [hp]
          rw [h5]; exact (by decide : (3 : Int) ≠ 0)
        · rw [hp] at h4; exact absurd h4.1 hE.2⟩)
    clear hE
    have hfz := HALL.out.1.1.frozen 2
    have hs4 : RS (w3.setCell ⟨k, 2, none⟩ (.int .i64 3)) k A c bs p1 3 := HALL.out.1.setE 3
    have ho4 : Off k W (w3.setCell ⟨k, 2, none⟩ (.int .i64 3)) := HALL.out.2.2.1.set 2 _
    have hax := ((Off.refl k w3).set 2 (.int .i64 3)).blk HALL.out.2.1 HALL.out.2.2.2.2.2.2
    have hcx := (((Off.refl k w3).set 2 (.int .i64 3)).blk HALL.out.2.2.2.1 HALL.out.2.2.2.2.1).range
    obtain ⟨w4, hw4⟩ : ∃ w4, w4 = w3.setCell ⟨k, 2, none⟩ (.int .i64 3) := ⟨_, rfl⟩
    go_upto_region 5 with fail
    rw [← hw4] at hs4 ho4 hax hcx ⊢
    clear hw4 hfz z2 f1 f2
    have hlw := hs4.low
    have HLT := Lib.hid (And.intro hs4 (And.intro ho4 hlw))
    clear hs4 ho4 hlw
    go_wp2_with (first | (refine wpList_load_midg (by rfl) 37 _ rfl _ _ rfl (rpc ?_) _ ?_ Tryz.underlying37 rfl (rpinfo _) ?_; rotate_left; (focus assumption)) | (refine wpList_store_blk rfl 37 _ _ rfl g 37 zrpA (rpc y).toArray rfl rfl hax (rpinfoA _) (zrp_siz _) (rpc_one _) ?_; intro hrow))
    refine bodyPost_row (t := 37) (rpc y).toArray rfl rfl rfl Tryz.underlying37 rfl (rpinfoA _) hrow ?_
    exact ⟨y, p1, 3, rfl, HLT.out.1.off (j := g) ⟨rfl, rfl, rfl, by simp, fun j _ hj => setRow_other _ g j _ hj⟩ (Ne.symm HALL.out.2.2.2.2.2.2) (fun hne b q hA => by have := HLOW.out hne b q hA; have := HG.out; omega), HLT.out.2.1.turn (g := g) (Nat.le_of_eq HG.out.symm) rfl rfl rfl (by simp) (fun j hj => setRow_other _ g j _ hj), HYB.out, HQ.out⟩
  · have HQ := Lib.hid (show PostP pkP bs p p1 e e1 (fun q => y = q) from ⟨HP.out.1, fun he => by
      have h3 := HP.out.2 he
      rcases hq : textP 1800 (bs.drop p) with q | ⟨q, t⟩
      · rw [hq] at h3
        rw [pkP_def, bindP_err hq]; exact h3
      · rw [hq] at h3
        obtain ⟨rfl, h0, hd⟩ := h3
        have h4 := HR.out
        unfold RdK at h4
        rcases hp : pkOf x with _ | q
        · rw [hp] at h4; exact absurd ⟨h0, h4⟩ hE
        · rw [hp] at h4
          have h5 : pkP (bs.drop p) = .ok (q, t) := by rw [pkP_def, bindP_ok hq]; unfold mkK; rw [hp]
          rw [h5]
          exact ⟨h4.2.symm, h0, hd⟩⟩)
    have hax := HALL.out.2.1
    have hcx := HALL.out.2.2.2.1.range
    have HLT := Lib.hid (And.intro HALL.out.1 HALL.out.2.2.1)
    have hff : (e1 == 0) = false ∨ ((e1 == 0) = true ∧ (z != 0) = false) := by
      by_cases h1 : e1 = 0
      · refine Or.inr ⟨by simpa using h1, ?_⟩
        have : z = 0 := Classical.byContradiction fun h => hE ⟨h1, h⟩
        simpa using this
      · exact Or.inl (by simpa using h1)
    clear hE
    rcases hff with f1 | ⟨f1, f2⟩
    · go_wp2_with (first | (refine wpList_load_midg (by rfl) 37 _ rfl _ _ rfl (rpc ?_) _ ?_ Tryz.underlying37 rfl (rpinfo _) ?_; rotate_left; (focus assumption)) | (refine wpList_store_blk rfl 37 _ _ rfl g 37 zrpA (rpc y).toArray rfl rfl hax (rpinfoA _) (zrp_siz _) (rpc_one _) ?_; intro hrow))
      refine bodyPost_row (t := 37) (rpc y).toArray rfl rfl rfl Tryz.underlying37 rfl (rpinfoA _) hrow ?_
      exact ⟨y, p1, e1, rfl, HLT.out.1.off (j := g) ⟨rfl, rfl, rfl, by simp, fun j _ hj => setRow_other _ g j _ hj⟩ (Ne.symm HALL.out.2.2.2.2.2.2) (fun hne b q hA => by have := HLOW.out hne b q hA; have := HG.out; omega), HLT.out.2.turn (g := g) (Nat.le_of_eq HG.out.symm) rfl rfl rfl (by simp) (fun j hj => setRow_other _ g j _ hj), HYB.out, HQ.out⟩
    · go_wp2_with (first | (refine wpList_load_midg (by rfl) 37 _ rfl _ _ rfl (rpc ?_) _ ?_ Tryz.underlying37 rfl (rpinfo _) ?_; rotate_left; (focus assumption)) | (refine wpList_store_blk rfl 37 _ _ rfl g 37 zrpA (rpc y).toArray rfl rfl hax (rpinfoA _) (zrp_siz _) (rpc_one _) ?_; intro hrow))
      refine bodyPost_row (t := 37) (rpc y).toArray rfl rfl rfl Tryz.underlying37 rfl (rpinfoA _) hrow ?_
      exact ⟨y, p1, e1, rfl, HLT.out.1.off (j := g) ⟨rfl, rfl, rfl, by simp, fun j _ hj => setRow_other _ g j _ hj⟩ (Ne.symm HALL.out.2.2.2.2.2.2) (fun hne b q hA => by have := HLOW.out hne b q hA; have := HG.out; omega), HLT.out.2.turn (g := g) (Nat.le_of_eq HG.out.symm) rfl rfl rfl (by simp) (fun j hj => setRow_other _ g j _ hj), HYB.out, HQ.out⟩
end In
end Go.Proofs.YtgnfachjobohoaaGreat
namespace Go.Proofs.YtgnfachjobohoaaGreat
open Go.RowKit
set_option linter.unusedSimpArgs false
set_option linter.unusedVariables false
namespace In
/-- Parts of a struct. -/
theorem part_struct {ty : TypeId} {fs : _} {cs xs : List Value} {o n : Nat} (hu : Tryz.prog.underlying ty = some (.struct fs)) (hi : (Tryz.prog.info? ty).map (·.size) = some n) (hn : xs.length = n) (h : ∀ j, j < n → cs[o + j]? = xs[j]?) (w : World) :
    (part ty cs.toArray o).run Tryz.prog w = .ok (.agg xs.toArray) w := by
  have hx : cs.toArray.extract o (o + n) = xs.toArray := by
    apply Array.ext_getElem?
    intro i
    rw [Array.getElem?_extract, List.getElem?_toArray, List.getElem?_toArray, List.size_toArray]
    by_cases hi : i < n
    · have h1 := h i hi
      have h2 : xs[i]? ≠ none := by rw [Ne, List.getElem?_eq_none_iff]; omega
      have h3 : o + i < cs.length := by
        rcases Nat.lt_or_ge (o + i) cs.length with h4 | h4
        · exact h4
        · rw [List.getElem?_eq_none h4] at h1; exact absurd h1.symm h2
      rw [if_pos (by omega), h1]
    · have : xs[i]? = none := List.getElem?_eq_none (by omega)
      rw [if_neg (by omega), this]
  have hx' : List.take n (List.drop o cs) = xs := by simpa using congrArg Array.toList hx
  simp [part, isAgg, run_underlying hu, run_sizeOf hi, hx']
theorem part_boolM {xs : Array Value} {o : Nat} {v : Value} (h : xs[o]? = some v) (w : World) : (part 4 xs o).run Tryz.prog w = .ok v w := by
  simp [part, isAgg, run_underlying Tryz.underlying4, h]
theorem part_vecM {cs : List Value} {f : Nat → Nat} {o : Nat} (h : ∀ j, j < 12 → cs[o + j]? = (vl f)[j]?) (w : World) : (part 24 cs.toArray o).run Tryz.prog w = .ok (.agg (vl f).toArray) w := by
  have hx : cs.toArray.extract o (o + 12) = (vl f).toArray := by
    apply Array.ext_getElem?
    intro i
    rw [Array.getElem?_extract, List.getElem?_toArray, List.getElem?_toArray, List.size_toArray]
    by_cases hi : i < 12
    · have h1 := h i hi
      have h2 : (vl f)[i]? ≠ none := by rw [Ne, List.getElem?_eq_none_iff, vl_len]; omega
      have h3 : o + i < cs.length := by
        rcases Nat.lt_or_ge (o + i) cs.length with h4 | h4
        · exact h4
        · rw [List.getElem?_eq_none h4] at h1; exact absurd h1.symm h2
      rw [if_pos (by omega), h1]
    · have : (vl f)[i]? = none := List.getElem?_eq_none (by rw [vl_len]; omega)
      rw [if_neg (by omega), this]
  have hx' : List.take 12 (List.drop o cs) = vl f := by simpa using congrArg Array.toList hx
  simp [part, isAgg, run_underlying Tryz.underlying24, run_sizeOf vsize, hx']
theorem part_str {xs : Array Value} {o : Nat} {v : Value} (h : xs[o]? = some v) (w : World) : (part 9 xs o).run Tryz.prog w = .ok v w := by
  simp [part, isAgg, run_underlying Tryz.underlying9, h]
theorem ropFields : (Tryz.prog.fieldsOf 35).toList.map (fun f => (f.name != "_", f.type, f.offset)) = [(true, 3, 0), (true, 3, 1), (true, 3, 2), (true, 25, 3)] := by kernel_rfl
theorem rplain_arr (o : OpR) : o.plain.toArray = #[.int .i64 o.k, .int .i64 o.s, .int .i64 o.q, .int .u64 (o.p : Nat)] := by unfold OpR.plain; rfl
set_option maxRecDepth 20000 in
theorem eq_ropD (d : Nat) (a b : OpR) (w : World) : (Op.equalIn (d + 2) 35 (.agg a.plain.toArray) (.agg b.plain.toArray)).run Tryz.prog w = .ok (sameO a b) w := by
  rw [rplain_arr, rplain_arr]
  rw [run_equalIn_struct w (d + 1) _ _ _ (by kernel_rfl) (by kernel_rfl), eq_tr (d + 1) _ _ _ _ w ropFields]
  rw [run_eqTr w (part_int rfl) (part_int rfl) (fun w => run_equalIn_int w d _ _ _ _ _ Tryz.underlying3), run_eqTr w (part_int rfl) (part_int rfl) (fun w => run_equalIn_int w d _ _ _ _ _ Tryz.underlying3), run_eqTr w (part_int rfl) (part_int rfl) (fun w => run_equalIn_int w d _ _ _ _ _ Tryz.underlying3), run_eqTr w (part_u64 rfl) (part_u64 rfl) (fun w => run_equalIn_int w d _ _ _ _ _ Tryz.underlying25)]
  have h3 : (((a.p : Nat) : Int) == ((b.p : Nat) : Int)) = Num.sameB a.p b.p := by unfold Num.sameB; rw [Bool.eq_iff_iff]; simp; omega
  rw [h3]
  unfold sameO
  cases h1 : (a.k == b.k) <;> cases h2 : (a.s == b.s) <;> cases h4 : (a.q == b.q) <;> cases h5 : Num.sameB a.p b.p <;> simp [eqTr]
theorem rpkFields : (Tryz.prog.fieldsOf 37).toList.map (fun f => (f.name != "_", f.type, f.offset)) = [(true, 4, 0), (true, 3, 1), (true, 3, 2), (true, 25, 3), (true, 9, 4)] := by kernel_rfl
theorem rp_at {p : Pk.Pt} {i : Nat} {v : Value} (h : ([.bool p.k, .int .i64 p.f, .int .i64 p.t, .int .u64 (p.q : Nat), .string (Byt.bstr p.bs)] : List Value)[i]? = some v) : (rpc p).toArray[i]? = some v := by
  rw [List.getElem?_toArray, rpc_def]; exact h
theorem eq_str (d : Nat) (a b : List Nat) (ha : ∀ y ∈ a, y < 256) (hb : ∀ y ∈ b, y < 256) (w : World) : (Op.equalIn (d + 1) 9 (.string (Byt.bstr a)) (.string (Byt.bstr b))).run Tryz.prog w = .ok (decide (a = b)) w := by
  rw [run_equalIn_string w d _ _ _ Tryz.underlying9, Sx.toList_beq a b ha hb]
set_option maxRecDepth 20000 in
theorem eq_rpk (d : Nat) (p q : Pk.Pt) (hp : ∀ y ∈ p.bs, y < 256) (hq : ∀ y ∈ q.bs, y < 256) (w : World) : (Op.equalIn (d + 2) 37 (.agg (rpc p).toArray) (.agg (rpc q).toArray)).run Tryz.prog w = .ok (sameP p q) w := by
  rw [run_equalIn_struct w (d + 1) _ _ _ (by kernel_rfl) (by kernel_rfl), eq_tr (d + 1) _ _ _ _ w rpkFields]
  rw [run_eqTr w (part_boolM (rp_at (p := p) (i := 0) rfl)) (part_boolM (rp_at (p := q) (i := 0) rfl)) (fun w => run_equalIn_bool w d _ _ _ Tryz.underlying4), run_eqTr w (part_int (rp_at (p := p) (i := 1) rfl)) (part_int (rp_at (p := q) (i := 1) rfl)) (fun w => run_equalIn_int w d _ _ _ _ _ Tryz.underlying3),
    run_eqTr w (part_int (rp_at (p := p) (i := 2) rfl)) (part_int (rp_at (p := q) (i := 2) rfl)) (fun w => run_equalIn_int w d _ _ _ _ _ Tryz.underlying3), run_eqTr w (part_u64 (rp_at (p := p) (i := 3) rfl)) (part_u64 (rp_at (p := q) (i := 3) rfl)) (fun w => run_equalIn_int w d _ _ _ _ _ Tryz.underlying25),
    run_eqTr w (part_str (rp_at (p := p) (i := 4) rfl)) (part_str (rp_at (p := q) (i := 4) rfl)) (fun w => eq_str d p.bs q.bs hp hq w)]
  unfold sameP
  cases (p.k == q.k) <;> cases (p.f == q.f) <;> cases (p.t == q.t) <;> cases ((p.q : Int) == (q.q : Int)) <;> cases decide (p.bs = q.bs) <;> simp [eqTr]
theorem ropsize : (Tryz.prog.info? 35).map (·.size) = some 4 := by kernel_rfl
theorem rpksize : (Tryz.prog.info? 37).map (·.size) = some 5 := by kernel_rfl
set_option maxRecDepth 20000 in
theorem rinFields : (Tryz.prog.fieldsOf 39).toList.map (fun f => (f.name != "_", f.type, f.offset)) = [(true, 3, 0), (true, 3, 1), (true, 3, 2), (true, 3, 3), (true, 24, 4), (true, 25, 16), (true, 35, 17), (true, 37, 21)] := by kernel_rfl
set_option maxRecDepth 20000 in
theorem eq_rin (a b : Iv) (ha : ∀ y ∈ a.x.p.bs, y < 256) (hb : ∀ y ∈ b.x.p.bs, y < 256) (w : World) : (Op.equalIn 10000 39 (.agg a.rc.toArray) (.agg b.rc.toArray)).run Tryz.prog w = .ok (sameI a b) w := by
  have g0 : ∀ m : Iv, m.rc.toArray[0]? = some (.int .i64 m.k) := fun l => by rw [List.getElem?_toArray]; exact riv_0 l 0 (by omega)
  have g1 : ∀ m : Iv, m.rc.toArray[1]? = some (.int .i64 m.ca) := fun l => by rw [List.getElem?_toArray]; exact riv_0 l 1 (by omega)
  have g2 : ∀ m : Iv, m.rc.toArray[2]? = some (.int .i64 m.se) := fun l => by rw [List.getElem?_toArray]; exact riv_0 l 2 (by omega)
  have g3 : ∀ m : Iv, m.rc.toArray[3]? = some (.int .i64 m.no) := fun l => by rw [List.getElem?_toArray]; exact riv_0 l 3 (by omega)
  have g5 : ∀ m : Iv, m.rc.toArray[16]? = some (.int .u64 (m.t : Nat)) := fun l => by rw [List.getElem?_toArray]; exact riv_t l
  have g6 : ∀ m : Iv, ∀ w, (part 35 m.rc.toArray 17).run Tryz.prog w = .ok (.agg m.o.plain.toArray) w := fun m w => part_struct Tryz.underlying35 ropsize plain_len (fun j hj => riv_o m j hj) w
  have g7 : ∀ m : Iv, ∀ w, (part 37 m.rc.toArray 21).run Tryz.prog w = .ok (.agg (rpc m.x.p).toArray) w := fun m w => part_struct Tryz.underlying37 rpksize (rpc_len _) (fun j hj => riv_x m j) w
  rw [run_equalIn_struct w 9999 _ _ _ (by kernel_rfl) (by kernel_rfl), eq_tr 9999 _ _ _ _ w rinFields]
  rw [run_eqTr w (part_int (g0 a)) (part_int (g0 b)) (fun w => run_equalIn_int w 9998 _ _ _ _ _ Tryz.underlying3), run_eqTr w (part_int (g1 a)) (part_int (g1 b)) (fun w => run_equalIn_int w 9998 _ _ _ _ _ Tryz.underlying3),
    run_eqTr w (part_int (g2 a)) (part_int (g2 b)) (fun w => run_equalIn_int w 9998 _ _ _ _ _ Tryz.underlying3), run_eqTr w (part_int (g3 a)) (part_int (g3 b)) (fun w => run_equalIn_int w 9998 _ _ _ _ _ Tryz.underlying3),
    run_eqTr w (part_vecM (fun j h => riv_f a j h)) (part_vecM (fun j h => riv_f b j h)) (fun w => run_equalIn_vec 9997 a.f b.f w), run_eqTr w (part_u64 (g5 a)) (part_u64 (g5 b)) (fun w => run_equalIn_int w 9998 _ _ _ _ _ Tryz.underlying25), run_eqTr w (g6 a) (g6 b) (fun w => eq_ropD 9997 a.o b.o w), run_eqTr w (g7 a) (g7 b) (fun w => eq_rpk 9997 a.x.p b.x.p ha hb w)]
  unfold sameI numsI
  cases (a.k == b.k) <;> cases (a.ca == b.ca) <;> cases (a.se == b.se) <;> cases (a.no == b.no) <;> cases eqB a.f b.f <;> cases ((a.t : Int) == (b.t : Int)) <;> cases sameO a.o b.o <;> cases sameP a.x.p b.x.p <;> simp [eqTr]
end In
end Go.Proofs.YtgnfachjobohoaaGreat
namespace Go.Proofs.YtgnfachjobohoaaGreat
open Go.RowKit
set_option linter.unusedSimpArgs false
set_option linter.unusedVariables false
namespace In
theorem zIr_list (k : Int) : (zI k).rc = [.int .i64 k, .int .i64 0, .int .i64 0, .int .i64 0, .int .u32 0, .int .u32 0, .int .u32 0, .int .u32 0, .int .u32 0, .int .u32 0, .int .u32 0, .int .u32 0, .int .u32 0, .int .u32 0, .int .u32 0, .int .u32 0, .int .u64 0, .int .i64 0, .int .i64 0, .int .i64 0, .int .u64 0, .bool false, .int .i64 0, .int .i64 0, .int .u64 0, .string ⟨#[]⟩] := by
  rw [riv_def]
  show ([.int .i64 k, .int .i64 0, .int .i64 0, .int .i64 0] : List Value) ++ (vl (fun _ => 0) ++ ([.int .u64 0] ++ (zo.plain ++ rpc zp))) = _
  rw [show vl (fun _ => 0) = [.int .u32 0, .int .u32 0, .int .u32 0, .int .u32 0, .int .u32 0, .int .u32 0, .int .u32 0, .int .u32 0, .int .u32 0, .int .u32 0, .int .u32 0, .int .u32 0] from congrArg Array.toList vl_zero, zrp_cells, show zo.plain = [.int .i64 0, .int .i64 0, .int .i64 0, .int .u64 0] from by unfold OpR.plain; rfl]
  rfl
abbrev zrinA : Array Value := #[.int .i64 0, .int .i64 0, .int .i64 0, .int .i64 0, .int .u32 0, .int .u32 0, .int .u32 0, .int .u32 0, .int .u32 0, .int .u32 0, .int .u32 0, .int .u32 0, .int .u32 0, .int .u32 0, .int .u32 0, .int .u32 0, .int .u64 0, .int .i64 0, .int .i64 0, .int .i64 0, .int .u64 0, .bool false, .int .i64 0, .int .i64 0, .int .u64 0, .string ⟨#[]⟩]
theorem zIr_arr : (zI 0).rc.toArray = zrinA := by rw [zIr_list]
theorem zrin_siz (m : Iv) : (zrinA : Array Value).size = m.rc.toArray.size := by
  show 26 = m.rc.toArray.size
  rw [List.size_toArray, riv_len]
theorem built_zIr (k : Int) : Tryz.prog.built 39 [(0, .int .i64 k)] = some (zI k).rc.toArray := by rw [zIr_list]; kernel_rfl
theorem built_zIr0 : Tryz.prog.built 39 [] = some (zI 0).rc.toArray := by rw [zIr_list]; kernel_rfl
theorem pinfoA6' (o : OpR) : (Tryz.prog.info? 35).map (·.size) = some o.plain.toArray.size := by rw [List.size_toArray]; exact pinfoL6 o
theorem maxK_iff (f : Nat → Nat) : maxK f 11 ≤ 1048576 ↔ ∀ i, i < 12 → f i ≤ 1048576 := by
  rw [maxK_le]
  exact ⟨fun h i hi => h i (by omega), fun h i hi => h i (by omega)⟩
def OkTo (m : Iv) (k : Nat) : Prop := ∀ j, j < k → m.f j ≤ 1048576
set_option maxRecDepth 20000 in
set_option maxHeartbeats 4000000 in
theorem ask26_any (m : Iv) (W : World) : Calls Tryz.prog 39 #[.agg m.rc.toArray] W fun e W' => e = .returned (.bool (cartB m)) ∧ Below W.heap.size W W' := by
  have bA := Blk.new W 39 m.rc.toArray
  have hB := (Below.refl W.heap.size W).alloc (Nat.le_refl _) (.cells m.rc.toArray 39)
  obtain ⟨-, rf, -, -, -, c1, -, -, ct⟩ := riv_all bA
  have HR := Lib.hid rf
  have HB := Lib.hid hB
  obtain ⟨t, ht⟩ : ∃ t : Int, t = (m.t : Nat) := ⟨_, rfl⟩
  rw [← ht] at ct
  have HH := Lib.hid ht
  clear bA hB rf ht
  go_enter Tryz.func39, Tryz.ntmps39
  go_upto_region 1 with fail
  obtain ⟨w1, hw1⟩ : ∃ w1, w1 = W.alloc (.cells m.rc.toArray 39) := ⟨_, rfl⟩
  rw [← hw1] at c1 ct HR HB ⊢
  clear hw1
  go_wp2_with fail
  go_loop [3] (fun i => ∃ k : Nat, k ≤ 12 ∧ i = .int .i64 k ∧ OkTo m k) (fun i => 12 - (intOf i).toNat)
  case atStart => exact ⟨0, Nat.zero_le _, rfl, fun j hj => absurd hj (Nat.not_lt_zero _)⟩
  case round =>
    obtain ⟨k, hk, rfl, hno⟩ := hrel
    have HNO := Lib.hid hno
    clear hno
    by_cases hlt : k < 12
    · have h1 : (k : Int) < 12 := by omega
      have ck := HR.out k _ (vl_get (f := m.f) hlt)
      obtain ⟨u, hu⟩ : ∃ u : Int, u = (m.f k : Nat) := ⟨_, rfl⟩
      rw [← hu] at ck
      have HU := Lib.hid hu
      clear hu
      have ck2 : w1.cell? ⟨W.heap.size, k + 4, none⟩ = some (.int .u32 u) := by rw [Nat.add_comm]; exact ck
      by_cases hbig : (1048576 : Int) < u
      · have HZ := Lib.hid (show cartB m = false by
          unfold cartB
          have hm : ¬ maxK m.f 11 ≤ 1048576 := fun hm => by have := (maxK_iff m.f).1 hm k hlt; have := HU.out; omega
          rw [decide_eq_false hm]; simp)
        have hbig' : decide ((1048576 : Int) < u) = true := decide_eq_true hbig
        clear hbig
        go_wp2_with fail
        go_ret
        exact ⟨by rw [HZ.out]; rfl, HB.out⟩
      · have HB2 := Lib.hid hbig
        have hbig' : decide ((1048576 : Int) < u) = false := decide_eq_false hbig
        clear hbig
        go_wp2_with fail
        go_round
        case rel => exact ⟨k + 1, by omega, by go_num, fun j hj => by
          rcases Nat.lt_or_ge j k with h9 | h9
          · exact HNO.out j h9
          · obtain rfl : j = k := by omega
            have := HB2.out; have := HU.out; omega⟩
        case measure => simp [intOf]; omega
    · obtain rfl : k = 12 := by omega
      clear hlt hk
      have HZ := Lib.hid (show cartB m = ((decide (0 < m.ca) && decide (m.ca < 13)) && decide (t ≤ 1099511627776)) by
        unfold cartB withinB
        rw [decide_eq_true ((maxK_iff m.f).2 fun i hi => HNO.out i hi), Bool.true_and]
        have := HH.out
        rw [show decide (1 ≤ m.ca) = decide (0 < m.ca) from decide_eq_decide.2 (by omega), show decide (m.ca ≤ 12) = decide (m.ca < 13) from decide_eq_decide.2 (by omega), show decide (m.t ≤ 1099511627776) = decide (t ≤ 1099511627776) from decide_eq_decide.2 (by omega)])
      cases p1 : decide (0 < m.ca) with
      | false =>
        rw [p1] at HZ
        go_wp2_with fail
        go_ret
        exact ⟨by rw [HZ.out]; first | rfl | simp, HB.out⟩
      | true =>
        cases p2 : decide (m.ca < 13) with
        | false =>
          rw [p1, p2] at HZ
          go_wp2_with fail
          go_ret
          exact ⟨by rw [HZ.out]; first | rfl | simp, HB.out⟩
        | true =>
          rw [p1, p2] at HZ
          cases p3 : decide (t ≤ 1099511627776) with
          | false =>
            rw [p3] at HZ
            go_wp2_with fail
            go_ret
            exact ⟨by rw [HZ.out]; first | rfl | simp, HB.out⟩
          | true =>
            rw [p3] at HZ
            go_wp2_with fail
            go_ret
            exact ⟨by rw [HZ.out]; first | rfl | simp, HB.out⟩
end In
end Go.Proofs.YtgnfachjobohoaaGreat

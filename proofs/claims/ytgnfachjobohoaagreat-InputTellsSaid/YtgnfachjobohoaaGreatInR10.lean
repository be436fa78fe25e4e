/-
The document's bytes of an input.
-/
import Derived.Test.YtgnfachjobohoaaGreatInR2b
namespace Go.Proofs.YtgnfachjobohoaaGreat
open Go.RowKit
set_option linter.unusedSimpArgs false
set_option linter.unusedVariables false
namespace In
theorem made_two (x : World) (a b : Nat) : Made x (x.alloc (.cells #[.int .u8 (a : Nat), .int .u8 (b : Nat)] 5)) (.slice (some ⟨x.heap.size, 0, none⟩) 2 2) [a, b] :=
  ⟨⟨rfl, Or.inr ⟨_, 2, _, rfl, Nat.le_refl _, heap_alloc_new x _, Nat.le_refl _, by simp [maxLen], rfl, rfl⟩⟩, (Below.refl _ _).alloc (Nat.le_refl _) _⟩
theorem src_one (x : World) (n : Nat) : Src (x.alloc (.cells #[.int .u8 (n : Nat)] 5)) (some ⟨x.heap.size, 0, none⟩) 1 (u8s [n]) := by
  obtain ⟨A, c, e, hS⟩ := src_own (made_one x n).1
  simp only [Value.slice.injEq] at e
  obtain ⟨rfl, _, rfl⟩ := e
  exact hS
theorem src_two (x : World) (a b : Nat) : Src (x.alloc (.cells #[.int .u8 (a : Nat), .int .u8 (b : Nat)] 5)) (some ⟨x.heap.size, 0, none⟩) 2 (u8s [a, b]) := by
  obtain ⟨A, c, e, hS⟩ := src_own (made_two x a b).1
  simp only [Value.slice.injEq] at e
  obtain ⟨rfl, _, rfl⟩ := e
  exact hS
theorem within12 {n : Int} (h : withinB n 1 12 = true) : 1 ≤ n ∧ n ≤ 12 := by unfold withinB at h; simp at h; exact h
theorem nat12 {n : Int} (h : withinB n 1 12 = true) : ∃ q : Nat, n = (q : Nat) ∧ q ≤ 12 := ⟨n.toNat, by have := within12 h; omega, by have := within12 h; omega⟩
theorem body_ca {m : Iv} (h : rightI m = true) (hc : hC m.k = true) : withinB m.ca 1 12 = true := by
  have := body_of h
  unfold bodyI cartB at this
  cases hw : withinB m.ca 1 12 with
  | true => rfl
  | false => rw [hw, hc] at this; simp at this
theorem wrap8 {n : Int} {q : Nat} (h : n = (q : Nat)) (hq : q ≤ 12) : IntKind.u8.wrap n = (q : Nat) := by rw [h, IntKind.wrap_u8]; omega
theorem encw {k : Int} {q : Nat} (h : k = (q : Nat)) (hq : q ≤ 12) : enc (wordN k) = [q] := by
  rw [h, wordN_nat q (by omega)]; exact enc_lo (by omega)
set_option maxRecDepth 20000 in
set_option maxHeartbeats 8000000 in
theorem rw_sel2 (m : Iv) (ho : m.Ok) (h256 : ∀ y ∈ m.x.p.bs, y < 256) (hr : rightI m = true) (hk : m.k = 2) (h1 : hC m.k = false) (h2 : hS m.k = true) (h3 : hN m.k = false) (h4 : hO m.k = false) (h5 : hP m.k = false) (e1 : (m.k == 1) = false) (e2 : (m.k == 2) = true) (e3 : (m.k == 3) = false) (e4 : (m.k == 4) = false) (e5 : (m.k == 5) = false) (e6 : (m.k == 6) = false) (W : World) : Calls Tryz.prog 15 #[.agg m.rc.toArray] W fun e W' => ∃ v, e = .returned v ∧ Made W W' v (encI m) := by
  have hb0 := (Below.refl W.heap.size W).alloc (Nat.le_refl _) (.cells m.rc.toArray 39)
  have hbk := Blk.new W 39 m.rc.toArray
  have HOK := Lib.hid ho
  obtain ⟨q, hq_q, hl_q⟩ := nat12 (body_se hr h2)
  have w_q := wrap8 hq_q hl_q
  have HEN := Lib.hid (show encI m = [2] ++ [q] by unfold encI; rw [h1, h2, h3, h4, h5, encw (k := m.k) (q := 2) (by rw [hk]; rfl) (by omega), encw hq_q hl_q]; simp)
  clear hq_q hl_q
  have ew : IntKind.u8.wrap m.k = 2 := by rw [hk]; rfl
  clear h1 h2 h3 h4 h5 hr h256 ho
  go_enter Tryz.func15, Tryz.ntmps15
  go_upto_region 1 with fail
  obtain ⟨x1, hx1⟩ : ∃ x1, x1 = W.alloc (.cells m.rc.toArray 39) := ⟨_, rfl⟩
  rw [← hx1] at hb0 hbk ⊢
  have HB := Lib.hid hb0
  have HQ := Lib.hid (fun w' (hb : Below x1.heap.size x1 w') => riv_all (hbk.next hb))
  obtain ⟨-, -, -, -, c0, -, -, -, -⟩ := HQ.out x1 (Below.refl _ _)
  clear hx1 hb0 hbk
  go_upto_region 2 with (refine wpList_buildSlice2 rfl _ _ rfl rfl rfl ?_)
  clear ew c0
  obtain ⟨x2, hx2⟩ : ∃ x2, x2 = x1.alloc (.cells #[.int .u8 2] 5) := ⟨_, rfl⟩
  have hO1 : Own8 x1.heap.size x1 (x1.alloc (.cells #[.int .u8 2] 5)) (.slice (some ⟨x1.heap.size, 0, none⟩) 1 1) [2] := Own8.first (made_one x1 2)
  rw [← hx2] at hO1 ⊢
  obtain ⟨v1, hv1⟩ : ∃ v1 : Value, v1 = .slice (some ⟨x1.heap.size, 0, none⟩) 1 1 := ⟨_, rfl⟩
  rw [← hv1] at hO1 ⊢
  have HO1 := Lib.hid hO1
  obtain ⟨-, -, -, -, c0, -, -, -, -⟩ := HQ.out x2 HO1.out.2
  clear hx2 hv1 hO1 hk
  go_upto_region 8 with fail
  obtain ⟨-, -, -, -, -, -, c2, -, -⟩ := HQ.out x2 HO1.out.2
  clear c0
  go_upto_region 15 with (first | (have hM := made_one x2 q; have hS := src_one x2 q; obtain ⟨y1, hy⟩ : ∃ y1, y1 = x2.alloc (.cells #[.int .u8 (q : Nat)] 5) := ⟨_, rfl⟩; obtain ⟨g1, hg⟩ : ∃ g1, g1 = x2.heap.size := ⟨_, rfl⟩; rw [← hy, ← hg] at hM hS ⊢; have HM1 := Lib.hid hM; have HS1 := Lib.hid hS; clear hM hS hy hg; (refine wpList_append_u8 _ rfl _ _ rfl x1.heap.size v1 ([2]).length (u8s ([2])) rfl (own_next HO1.out.1 HM1.out.2 HO1.out.2.size) (some ⟨g1, 0, none⟩) ([q]).length 1 (u8s ([q])) rfl (u8s_len _) HS1.out (u8s_one _) (by simp only [List.length_append, List.length_cons, List.length_nil]; omega) (Nat.le_trans HO1.out.2.size HM1.out.2.size) ?_; intro v2 y2 hown hgrow _; have HO2 := Lib.hid (Own8.more rfl HO1.out HM1.out rfl hown hgrow); clear hown hgrow HO1 HM1 HS1)))
  go_wp2_with fail
  go_ret
  exact ⟨v2, rfl, by rw [HEN.out]; exact own_le HO2.out.1 HB.out.size, HB.out.trans (HO2.out.2.mono HB.out.size)⟩
set_option maxRecDepth 20000 in
set_option maxHeartbeats 8000000 in
theorem rw_sel4 (m : Iv) (ho : m.Ok) (h256 : ∀ y ∈ m.x.p.bs, y < 256) (hr : rightI m = true) (hk : m.k = 4) (h1 : hC m.k = false) (h2 : hS m.k = true) (h3 : hN m.k = false) (h4 : hO m.k = false) (h5 : hP m.k = false) (e1 : (m.k == 1) = false) (e2 : (m.k == 2) = false) (e3 : (m.k == 3) = false) (e4 : (m.k == 4) = true) (e5 : (m.k == 5) = false) (e6 : (m.k == 6) = false) (W : World) : Calls Tryz.prog 15 #[.agg m.rc.toArray] W fun e W' => ∃ v, e = .returned v ∧ Made W W' v (encI m) := by
  have hb0 := (Below.refl W.heap.size W).alloc (Nat.le_refl _) (.cells m.rc.toArray 39)
  have hbk := Blk.new W 39 m.rc.toArray
  have HOK := Lib.hid ho
  obtain ⟨q, hq_q, hl_q⟩ := nat12 (body_se hr h2)
  have w_q := wrap8 hq_q hl_q
  have HEN := Lib.hid (show encI m = [4] ++ [q] by unfold encI; rw [h1, h2, h3, h4, h5, encw (k := m.k) (q := 4) (by rw [hk]; rfl) (by omega), encw hq_q hl_q]; simp)
  clear hq_q hl_q
  have ew : IntKind.u8.wrap m.k = 4 := by rw [hk]; rfl
  clear h1 h2 h3 h4 h5 hr h256 ho
  go_enter Tryz.func15, Tryz.ntmps15
  go_upto_region 1 with fail
  obtain ⟨x1, hx1⟩ : ∃ x1, x1 = W.alloc (.cells m.rc.toArray 39) := ⟨_, rfl⟩
  rw [← hx1] at hb0 hbk ⊢
  have HB := Lib.hid hb0
  have HQ := Lib.hid (fun w' (hb : Below x1.heap.size x1 w') => riv_all (hbk.next hb))
  obtain ⟨-, -, -, -, c0, -, -, -, -⟩ := HQ.out x1 (Below.refl _ _)
  clear hx1 hb0 hbk
  go_upto_region 2 with (refine wpList_buildSlice2 rfl _ _ rfl rfl rfl ?_)
  clear ew c0
  obtain ⟨x2, hx2⟩ : ∃ x2, x2 = x1.alloc (.cells #[.int .u8 4] 5) := ⟨_, rfl⟩
  have hO1 : Own8 x1.heap.size x1 (x1.alloc (.cells #[.int .u8 4] 5)) (.slice (some ⟨x1.heap.size, 0, none⟩) 1 1) [4] := Own8.first (made_one x1 4)
  rw [← hx2] at hO1 ⊢
  obtain ⟨v1, hv1⟩ : ∃ v1 : Value, v1 = .slice (some ⟨x1.heap.size, 0, none⟩) 1 1 := ⟨_, rfl⟩
  rw [← hv1] at hO1 ⊢
  have HO1 := Lib.hid hO1
  obtain ⟨-, -, -, -, c0, -, -, -, -⟩ := HQ.out x2 HO1.out.2
  clear hx2 hv1 hO1 hk
  go_upto_region 8 with fail
  obtain ⟨-, -, -, -, -, -, c2, -, -⟩ := HQ.out x2 HO1.out.2
  clear c0
  go_upto_region 15 with (first | (have hM := made_one x2 q; have hS := src_one x2 q; obtain ⟨y1, hy⟩ : ∃ y1, y1 = x2.alloc (.cells #[.int .u8 (q : Nat)] 5) := ⟨_, rfl⟩; obtain ⟨g1, hg⟩ : ∃ g1, g1 = x2.heap.size := ⟨_, rfl⟩; rw [← hy, ← hg] at hM hS ⊢; have HM1 := Lib.hid hM; have HS1 := Lib.hid hS; clear hM hS hy hg; (refine wpList_append_u8 _ rfl _ _ rfl x1.heap.size v1 ([4]).length (u8s ([4])) rfl (own_next HO1.out.1 HM1.out.2 HO1.out.2.size) (some ⟨g1, 0, none⟩) ([q]).length 1 (u8s ([q])) rfl (u8s_len _) HS1.out (u8s_one _) (by simp only [List.length_append, List.length_cons, List.length_nil]; omega) (Nat.le_trans HO1.out.2.size HM1.out.2.size) ?_; intro v2 y2 hown hgrow _; have HO2 := Lib.hid (Own8.more rfl HO1.out HM1.out rfl hown hgrow); clear hown hgrow HO1 HM1 HS1)))
  go_wp2_with fail
  go_ret
  exact ⟨v2, rfl, by rw [HEN.out]; exact own_le HO2.out.1 HB.out.size, HB.out.trans (HO2.out.2.mono HB.out.size)⟩
set_option maxRecDepth 20000 in
set_option maxHeartbeats 8000000 in
theorem rw_joi (m : Iv) (ho : m.Ok) (h256 : ∀ y ∈ m.x.p.bs, y < 256) (hr : rightI m = true) (hk : m.k = 3) (h1 : hC m.k = false) (h2 : hS m.k = true) (h3 : hN m.k = true) (h4 : hO m.k = false) (h5 : hP m.k = false) (e1 : (m.k == 1) = false) (e2 : (m.k == 2) = false) (e3 : (m.k == 3) = true) (e4 : (m.k == 4) = false) (e5 : (m.k == 5) = false) (e6 : (m.k == 6) = false) (W : World) : Calls Tryz.prog 15 #[.agg m.rc.toArray] W fun e W' => ∃ v, e = .returned v ∧ Made W W' v (encI m) := by
  have hb0 := (Below.refl W.heap.size W).alloc (Nat.le_refl _) (.cells m.rc.toArray 39)
  have hbk := Blk.new W 39 m.rc.toArray
  have HOK := Lib.hid ho
  obtain ⟨q, hq_q, hl_q⟩ := nat12 (body_se hr h2)
  have w_q := wrap8 hq_q hl_q
  obtain ⟨r, hq_r, hl_r⟩ := nat12 (body_no hr h3)
  have w_r := wrap8 hq_r hl_r
  have HEN := Lib.hid (show encI m = [3] ++ [q, r] by unfold encI; rw [h1, h2, h3, h4, h5, encw (k := m.k) (q := 3) (by rw [hk]; rfl) (by omega), encw hq_q hl_q, encw hq_r hl_r]; simp)
  clear hq_q hl_q hq_r hl_r
  have ew : IntKind.u8.wrap m.k = 3 := by rw [hk]; rfl
  clear h1 h2 h3 h4 h5 hr h256 ho
  go_enter Tryz.func15, Tryz.ntmps15
  go_upto_region 1 with fail
  obtain ⟨x1, hx1⟩ : ∃ x1, x1 = W.alloc (.cells m.rc.toArray 39) := ⟨_, rfl⟩
  rw [← hx1] at hb0 hbk ⊢
  have HB := Lib.hid hb0
  have HQ := Lib.hid (fun w' (hb : Below x1.heap.size x1 w') => riv_all (hbk.next hb))
  obtain ⟨-, -, -, -, c0, -, -, -, -⟩ := HQ.out x1 (Below.refl _ _)
  clear hx1 hb0 hbk
  go_upto_region 2 with (refine wpList_buildSlice2 rfl _ _ rfl rfl rfl ?_)
  clear ew c0
  obtain ⟨x2, hx2⟩ : ∃ x2, x2 = x1.alloc (.cells #[.int .u8 3] 5) := ⟨_, rfl⟩
  have hO1 : Own8 x1.heap.size x1 (x1.alloc (.cells #[.int .u8 3] 5)) (.slice (some ⟨x1.heap.size, 0, none⟩) 1 1) [3] := Own8.first (made_one x1 3)
  rw [← hx2] at hO1 ⊢
  obtain ⟨v1, hv1⟩ : ∃ v1 : Value, v1 = .slice (some ⟨x1.heap.size, 0, none⟩) 1 1 := ⟨_, rfl⟩
  rw [← hv1] at hO1 ⊢
  have HO1 := Lib.hid hO1
  obtain ⟨-, -, -, -, c0, -, -, -, -⟩ := HQ.out x2 HO1.out.2
  clear hx2 hv1 hO1 hk
  go_upto_region 10 with fail
  obtain ⟨-, -, -, -, -, -, c2, c3, -⟩ := HQ.out x2 HO1.out.2
  clear c0
  go_upto_region 15 with (first | (have hM := made_two x2 q r; have hS := src_two x2 q r; obtain ⟨y1, hy⟩ : ∃ y1, y1 = x2.alloc (.cells #[.int .u8 (q : Nat), .int .u8 (r : Nat)] 5) := ⟨_, rfl⟩; obtain ⟨g1, hg⟩ : ∃ g1, g1 = x2.heap.size := ⟨_, rfl⟩; rw [← hy, ← hg] at hM hS ⊢; have HM1 := Lib.hid hM; have HS1 := Lib.hid hS; clear hM hS hy hg; (refine wpList_append_u8 _ rfl _ _ rfl x1.heap.size v1 ([3]).length (u8s ([3])) rfl (own_next HO1.out.1 HM1.out.2 HO1.out.2.size) (some ⟨g1, 0, none⟩) ([q, r]).length 2 (u8s ([q, r])) rfl (u8s_len _) HS1.out (u8s_one _) (by simp only [List.length_append, List.length_cons, List.length_nil]; omega) (Nat.le_trans HO1.out.2.size HM1.out.2.size) ?_; intro v2 y2 hown hgrow _; have HO2 := Lib.hid (Own8.more rfl HO1.out HM1.out rfl hown hgrow); clear hown hgrow HO1 HM1 HS1)))
  go_wp2_with fail
  go_ret
  exact ⟨v2, rfl, by rw [HEN.out]; exact own_le HO2.out.1 HB.out.size, HB.out.trans (HO2.out.2.mono HB.out.size)⟩
set_option maxRecDepth 20000 in
set_option maxHeartbeats 8000000 in
theorem rw_chk (m : Iv) (ho : m.Ok) (h256 : ∀ y ∈ m.x.p.bs, y < 256) (hr : rightI m = true) (hk : m.k = 5) (h1 : hC m.k = true) (h2 : hS m.k = false) (h3 : hN m.k = false) (h4 : hO m.k = false) (h5 : hP m.k = false) (e1 : (m.k == 1) = false) (e2 : (m.k == 2) = false) (e3 : (m.k == 3) = false) (e4 : (m.k == 4) = false) (e5 : (m.k == 5) = true) (e6 : (m.k == 6) = false) (W : World) : Calls Tryz.prog 15 #[.agg m.rc.toArray] W fun e W' => ∃ v, e = .returned v ∧ Made W W' v (encI m) := by
  have hb0 := (Below.refl W.heap.size W).alloc (Nat.le_refl _) (.cells m.rc.toArray 39)
  have hbk := Blk.new W 39 m.rc.toArray
  have HOK := Lib.hid ho
  obtain ⟨q, hq_q, hl_q⟩ := nat12 (body_ca hr h1)
  have w_q := wrap8 hq_q hl_q
  have HLL := Lib.hid (And.intro (enc_len _ HOK.out.t) (encV_len _ HOK.out.f))
  have HEN := Lib.hid (show encI m = [5] ++ [q] ++ encV m.f ++ enc m.t by unfold encI; rw [h1, h2, h3, h4, h5, encw (k := m.k) (q := 5) (by rw [hk]; rfl) (by omega), encw hq_q hl_q]; simp)
  clear hq_q hl_q
  have ew : IntKind.u8.wrap m.k = 5 := by rw [hk]; rfl
  clear h1 h2 h3 h4 h5 hr h256 ho
  go_enter Tryz.func15, Tryz.ntmps15
  go_upto_region 1 with fail
  obtain ⟨x1, hx1⟩ : ∃ x1, x1 = W.alloc (.cells m.rc.toArray 39) := ⟨_, rfl⟩
  rw [← hx1] at hb0 hbk ⊢
  have HB := Lib.hid hb0
  have HQ := Lib.hid (fun w' (hb : Below x1.heap.size x1 w') => riv_all (hbk.next hb))
  obtain ⟨-, -, -, -, c0, -, -, -, -⟩ := HQ.out x1 (Below.refl _ _)
  clear hx1 hb0 hbk
  go_upto_region 2 with (refine wpList_buildSlice2 rfl _ _ rfl rfl rfl ?_)
  clear ew c0
  obtain ⟨x2, hx2⟩ : ∃ x2, x2 = x1.alloc (.cells #[.int .u8 5] 5) := ⟨_, rfl⟩
  have hO1 : Own8 x1.heap.size x1 (x1.alloc (.cells #[.int .u8 5] 5)) (.slice (some ⟨x1.heap.size, 0, none⟩) 1 1) [5] := Own8.first (made_one x1 5)
  rw [← hx2] at hO1 ⊢
  obtain ⟨v1, hv1⟩ : ∃ v1 : Value, v1 = .slice (some ⟨x1.heap.size, 0, none⟩) 1 1 := ⟨_, rfl⟩
  rw [← hv1] at hO1 ⊢
  have HO1 := Lib.hid hO1
  obtain ⟨-, -, -, -, c0, -, -, -, -⟩ := HQ.out x2 HO1.out.2
  clear hx2 hv1 hO1 hk
  go_upto_region 12 with fail
  clear c0
  refine wp_region_tree (S := (fun W' => Below x1.heap.size x1 W')) (.take 0 (.take 1 (.take 2 (.take 3 (.take 6 (.take 7 (.take 10 (.take 11 (.one 4 (.one 5 (.one 8 (.one 9 (.one 12 (.one 13 (.take 14 .nil))))))))))))))) 9999 (by kernel_rfl) (by kernel_rfl) (by kernel_rfl) (by kernel_rfl) (by kernel_rfl) (fun _ _ d _ _ h => by cases d <;> exact h) HO1.out.2.drew (fun hHeld => ?_); simp only [Tree.map, List.getElem?_toArray, List.getElem?_cons_zero, List.getElem?_cons_succ]
  (repeat (first | (refine wpTree.take (v := undef) (Or.inr ⟨by rfl, rfl⟩) ?_; simp only [Act.put, List.setIfInBounds_toArray, List.set_cons_zero, List.set_cons_succ]) | (refine wpTree.take (v := .agg (vl m.f).toArray) (yieldsIf_load_mid rfl 24 _ rfl _ _ rfl (vl m.f) _ ?_ Tryz.underlying24 rfl (vinfoL _)) ?_; (focus (intro wq hS; exact (HQ.out wq hS).2.1)); simp only [Act.put, List.setIfInBounds_toArray, List.set_cons_zero, List.set_cons_succ]) | (refine wpTree.take (v := .agg m.o.plain.toArray) (yieldsIf_load_mid rfl 35 _ rfl _ _ rfl m.o.plain _ ?_ Tryz.underlying35 rfl (pinfoL6 _)) ?_; (focus (intro wq hS; exact (HQ.out wq hS).2.2.1)); simp only [Act.put, List.setIfInBounds_toArray, List.set_cons_zero, List.set_cons_succ]) | (refine wpTree.take (v := ?_) (Or.inl ⟨by rfl, ?_⟩) ?_; rotate_left; (focus (intro wq hS; obtain ⟨-, -, -, -, c0, c1, c2, c3, ct⟩ := HQ.out wq hS; go_simp; (try (with_reducible rfl)); done)); simp only [Act.put, List.setIfInBounds_toArray, List.set_cons_zero, List.set_cons_succ])))
  obtain ⟨xd, hxd⟩ : ∃ xd, xd = x2.drew := ⟨_, rfl⟩
  have HO1 := Lib.hid (show Own8 x1.heap.size x1 xd v1 ([5]) by rw [hxd]; exact ⟨HO1.out.1, HO1.out.2.drew⟩)
  rw [← hxd]
  clear hxd hHeld
  clear w_q
  refine wpTree.one (fun K hK => ?_)
  go_simp
  have hM := made_one xd q; have hS := src_one xd q; obtain ⟨y1, hy⟩ : ∃ y1, y1 = xd.alloc (.cells #[.int .u8 (q : Nat)] 5) := ⟨_, rfl⟩; obtain ⟨g1, hg⟩ : ∃ g1, g1 = xd.heap.size := ⟨_, rfl⟩; rw [← hy, ← hg] at hM hS ⊢; have HM1 := Lib.hid hM; have HS1 := Lib.hid hS; clear hM hS hy hg
  have HH1 := Lib.hid (HO1.out.2.trans (HM1.out.2.mono HO1.out.2.size))
  refine hK.out _ _ HH1.out (fun _ => ?_)
  clear hK K
  (try simp only [Act.put, List.setIfInBounds_toArray, List.set_cons_zero, List.set_cons_succ])
  refine wpTree.one (fun K hK => ?_)
  refine step_append_u8 _ (by rfl) _ _ rfl x1.heap.size v1 ([5]).length (u8s ([5])) rfl (own_next HO1.out.1 HM1.out.2 HO1.out.2.size) (some ⟨g1, 0, none⟩) ([q]).length 1 (u8s ([q])) rfl (u8s_len _) HS1.out (u8s_one _) (by simp only [List.length_append, List.length_cons, List.length_nil]; omega) (Nat.le_trans HO1.out.2.size HM1.out.2.size) ?_
  intro v2 y2 hown hgrow
  have HO2 := Lib.hid (Own8.more rfl HO1.out HM1.out rfl hown hgrow)
  clear hown hgrow HO1 HM1 HS1
  refine hK.out _ _ HO2.out.2 (fun _ => ?_)
  clear hK K
  (try simp only [Act.put, List.setIfInBounds_toArray, List.set_cons_zero, List.set_cons_succ])
  refine wpTree.one (fun K hK => ?_)
  go_simp
  go_at_call 45
  refine (rfvector_any m.f HOK.out.f _).mono ?_
  rintro e y3 ⟨u3, rfl, hM⟩
  obtain ⟨A3, s3, rfl, hS⟩ := src_own hM.1
  have HM3 := Lib.hid hM
  have HS3 := Lib.hid hS
  have HH3 := Lib.hid (HO2.out.2.trans (hM.2.mono HO2.out.2.size))
  refine hK.out _ _ HH3.out (fun _ => ?_)
  clear hK K hM hS
  (try simp only [Act.put, List.setIfInBounds_toArray, List.set_cons_zero, List.set_cons_succ])
  refine wpTree.one (fun K hK => ?_)
  refine step_append_u8 _ (by rfl) _ _ rfl x1.heap.size v2 ([5] ++ [q]).length (u8s ([5] ++ [q])) rfl (own_next HO2.out.1 HM3.out.2 HO2.out.2.size) A3 (encV m.f).length s3 (u8s (encV m.f)) rfl (u8s_len _) HS3.out (u8s_one _) (by simp only [List.length_append, List.length_cons, List.length_nil]; have := HLL.out; omega) (Nat.le_trans HO2.out.2.size HM3.out.2.size) ?_
  intro v4 y4 hown hgrow
  have HO4 := Lib.hid (Own8.more rfl HO2.out HM3.out rfl hown hgrow)
  clear hown hgrow HO2 HM3 HS3
  refine hK.out _ _ HO4.out.2 (fun _ => ?_)
  clear hK K
  (try simp only [Act.put, List.setIfInBounds_toArray, List.set_cons_zero, List.set_cons_succ])
  refine wpTree.one (fun K hK => ?_)
  go_simp
  go_at_call 46
  refine (rfnum_any m.t _ HOK.out.t).mono ?_
  rintro e y5 ⟨u5, rfl, hM⟩
  obtain ⟨A5, s5, rfl, hS⟩ := src_own hM.1
  have HM5 := Lib.hid hM
  have HS5 := Lib.hid hS
  have HH5 := Lib.hid (HO4.out.2.trans (hM.2.mono HO4.out.2.size))
  refine hK.out _ _ HH5.out (fun _ => ?_)
  clear hK K hM hS
  (try simp only [Act.put, List.setIfInBounds_toArray, List.set_cons_zero, List.set_cons_succ])
  refine wpTree.one (fun K hK => ?_)
  refine step_append_u8 _ (by rfl) _ _ rfl x1.heap.size v4 ([5] ++ [q] ++ encV m.f).length (u8s ([5] ++ [q] ++ encV m.f)) rfl (own_next HO4.out.1 HM5.out.2 HO4.out.2.size) A5 (enc m.t).length s5 (u8s (enc m.t)) rfl (u8s_len _) HS5.out (u8s_one _) (by simp only [List.length_append, List.length_cons, List.length_nil]; have := HLL.out; omega) (Nat.le_trans HO4.out.2.size HM5.out.2.size) ?_
  intro v6 y6 hown hgrow
  have HO6 := Lib.hid (Own8.more rfl HO4.out HM5.out rfl hown hgrow)
  clear hown hgrow HO4 HM5 HS5
  refine hK.out _ _ HO6.out.2 (fun _ => ?_)
  clear hK K
  (try simp only [Act.put, List.setIfInBounds_toArray, List.set_cons_zero, List.set_cons_succ])
  (repeat (first | (refine wpTree.take (v := undef) (Or.inr ⟨by rfl, rfl⟩) ?_; simp only [Act.put, List.setIfInBounds_toArray, List.set_cons_zero, List.set_cons_succ]) | (refine wpTree.take (v := .agg (vl m.f).toArray) (yieldsIf_load_mid rfl 24 _ rfl _ _ rfl (vl m.f) _ ?_ Tryz.underlying24 rfl (vinfoL _)) ?_; (focus (intro wq hS; exact (HQ.out wq hS).2.1)); simp only [Act.put, List.setIfInBounds_toArray, List.set_cons_zero, List.set_cons_succ]) | (refine wpTree.take (v := .agg m.o.plain.toArray) (yieldsIf_load_mid rfl 35 _ rfl _ _ rfl m.o.plain _ ?_ Tryz.underlying35 rfl (pinfoL6 _)) ?_; (focus (intro wq hS; exact (HQ.out wq hS).2.2.1)); simp only [Act.put, List.setIfInBounds_toArray, List.set_cons_zero, List.set_cons_succ]) | (refine wpTree.take (v := ?_) (Or.inl ⟨by rfl, ?_⟩) ?_; rotate_left; (focus (intro wq hS; obtain ⟨-, -, -, -, c0, c1, c2, c3, ct⟩ := HQ.out wq hS; go_simp; (try (with_reducible rfl)); done)); simp only [Act.put, List.setIfInBounds_toArray, List.set_cons_zero, List.set_cons_succ])))
  refine wpTree.done ?_
  go_wp2_with fail
  go_ret
  exact ⟨v6, rfl, by rw [HEN.out]; exact own_le HO6.out.1 HB.out.size, HB.out.trans (HO6.out.2.mono HB.out.size)⟩
set_option maxRecDepth 20000 in
set_option maxHeartbeats 8000000 in
theorem rw_ord (m : Iv) (ho : m.Ok) (h256 : ∀ y ∈ m.x.p.bs, y < 256) (hr : rightI m = true) (hk : m.k = 1) (h1 : hC m.k = true) (h2 : hS m.k = true) (h3 : hN m.k = false) (h4 : hO m.k = true) (h5 : hP m.k = false) (e1 : (m.k == 1) = true) (e2 : (m.k == 2) = false) (e3 : (m.k == 3) = false) (e4 : (m.k == 4) = false) (e5 : (m.k == 5) = false) (e6 : (m.k == 6) = false) (W : World) : Calls Tryz.prog 15 #[.agg m.rc.toArray] W fun e W' => ∃ v, e = .returned v ∧ Made W W' v (encI m) := by
  have hb0 := (Below.refl W.heap.size W).alloc (Nat.le_refl _) (.cells m.rc.toArray 39)
  have hbk := Blk.new W 39 m.rc.toArray
  have HOK := Lib.hid ho
  obtain ⟨q, hq_q, hl_q⟩ := nat12 (body_ca hr h1)
  have w_q := wrap8 hq_q hl_q
  obtain ⟨r, hq_r, hl_r⟩ := nat12 (body_se hr h2)
  have w_r := wrap8 hq_r hl_r
  have HLL := Lib.hid (And.intro (enc_len _ HOK.out.t) (encV_len _ HOK.out.f))
  have HOO := Lib.hid (may_ok (body_op hr h4) ho.p)
  have HLO := Lib.hid (encO_len HOO.out)
  have HEN := Lib.hid (show encI m = [1] ++ [q, r] ++ encV m.f ++ enc m.t ++ encO m.o by unfold encI; rw [h1, h2, h3, h4, h5, encw (k := m.k) (q := 1) (by rw [hk]; rfl) (by omega), encw hq_q hl_q, encw hq_r hl_r]; simp)
  clear hq_q hl_q hq_r hl_r
  have ew : IntKind.u8.wrap m.k = 1 := by rw [hk]; rfl
  clear h1 h2 h3 h4 h5 hr h256 ho
  go_enter Tryz.func15, Tryz.ntmps15
  go_upto_region 1 with fail
  obtain ⟨x1, hx1⟩ : ∃ x1, x1 = W.alloc (.cells m.rc.toArray 39) := ⟨_, rfl⟩
  rw [← hx1] at hb0 hbk ⊢
  have HB := Lib.hid hb0
  have HQ := Lib.hid (fun w' (hb : Below x1.heap.size x1 w') => riv_all (hbk.next hb))
  obtain ⟨-, -, -, -, c0, -, -, -, -⟩ := HQ.out x1 (Below.refl _ _)
  clear hx1 hb0 hbk
  go_upto_region 2 with (refine wpList_buildSlice2 rfl _ _ rfl rfl rfl ?_)
  clear ew c0
  obtain ⟨x2, hx2⟩ : ∃ x2, x2 = x1.alloc (.cells #[.int .u8 1] 5) := ⟨_, rfl⟩
  have hO1 : Own8 x1.heap.size x1 (x1.alloc (.cells #[.int .u8 1] 5)) (.slice (some ⟨x1.heap.size, 0, none⟩) 1 1) [1] := Own8.first (made_one x1 1)
  rw [← hx2] at hO1 ⊢
  obtain ⟨v1, hv1⟩ : ∃ v1 : Value, v1 = .slice (some ⟨x1.heap.size, 0, none⟩) 1 1 := ⟨_, rfl⟩
  rw [← hv1] at hO1 ⊢
  have HO1 := Lib.hid hO1
  obtain ⟨-, -, -, -, c0, -, -, -, -⟩ := HQ.out x2 HO1.out.2
  clear hx2 hv1 hO1 hk
  go_upto_region 4 with fail
  clear c0
  refine wp_region_tree (S := (fun W' => Below x1.heap.size x1 W')) (.take 0 (.take 1 (.take 2 (.take 3 (.take 4 (.take 5 (.take 6 (.take 9 (.take 10 (.one 7 (.one 8 (.one 11 (.one 12 (.take 13 .nil)))))))))))))) 9999 (by kernel_rfl) (by kernel_rfl) (by kernel_rfl) (by kernel_rfl) (by kernel_rfl) (fun _ _ d _ _ h => by cases d <;> exact h) HO1.out.2.drew (fun hHeld => ?_); simp only [Tree.map, List.getElem?_toArray, List.getElem?_cons_zero, List.getElem?_cons_succ]
  (repeat (first | (refine wpTree.take (v := undef) (Or.inr ⟨by rfl, rfl⟩) ?_; simp only [Act.put, List.setIfInBounds_toArray, List.set_cons_zero, List.set_cons_succ]) | (refine wpTree.take (v := .agg (vl m.f).toArray) (yieldsIf_load_mid rfl 24 _ rfl _ _ rfl (vl m.f) _ ?_ Tryz.underlying24 rfl (vinfoL _)) ?_; (focus (intro wq hS; exact (HQ.out wq hS).2.1)); simp only [Act.put, List.setIfInBounds_toArray, List.set_cons_zero, List.set_cons_succ]) | (refine wpTree.take (v := .agg m.o.plain.toArray) (yieldsIf_load_mid rfl 35 _ rfl _ _ rfl m.o.plain _ ?_ Tryz.underlying35 rfl (pinfoL6 _)) ?_; (focus (intro wq hS; exact (HQ.out wq hS).2.2.1)); simp only [Act.put, List.setIfInBounds_toArray, List.set_cons_zero, List.set_cons_succ]) | (refine wpTree.take (v := ?_) (Or.inl ⟨by rfl, ?_⟩) ?_; rotate_left; (focus (intro wq hS; obtain ⟨-, -, -, -, c0, c1, c2, c3, ct⟩ := HQ.out wq hS; go_simp; (try (with_reducible rfl)); done)); simp only [Act.put, List.setIfInBounds_toArray, List.set_cons_zero, List.set_cons_succ])))
  obtain ⟨xd, hxd⟩ : ∃ xd, xd = x2.drew := ⟨_, rfl⟩
  have HO1 := Lib.hid (show Own8 x1.heap.size x1 xd v1 ([1]) by rw [hxd]; exact ⟨HO1.out.1, HO1.out.2.drew⟩)
  rw [← hxd]
  clear hxd hHeld
  clear w_q w_r
  refine wpTree.one (fun K hK => ?_)
  go_simp
  have hM := made_two xd q r; have hS := src_two xd q r; obtain ⟨y1, hy⟩ : ∃ y1, y1 = xd.alloc (.cells #[.int .u8 (q : Nat), .int .u8 (r : Nat)] 5) := ⟨_, rfl⟩; obtain ⟨g1, hg⟩ : ∃ g1, g1 = xd.heap.size := ⟨_, rfl⟩; rw [← hy, ← hg] at hM hS ⊢; have HM1 := Lib.hid hM; have HS1 := Lib.hid hS; clear hM hS hy hg
  have HH1 := Lib.hid (HO1.out.2.trans (HM1.out.2.mono HO1.out.2.size))
  refine hK.out _ _ HH1.out (fun _ => ?_)
  clear hK K
  (try simp only [Act.put, List.setIfInBounds_toArray, List.set_cons_zero, List.set_cons_succ])
  refine wpTree.one (fun K hK => ?_)
  refine step_append_u8 _ (by rfl) _ _ rfl x1.heap.size v1 ([1]).length (u8s ([1])) rfl (own_next HO1.out.1 HM1.out.2 HO1.out.2.size) (some ⟨g1, 0, none⟩) ([q, r]).length 2 (u8s ([q, r])) rfl (u8s_len _) HS1.out (u8s_one _) (by simp only [List.length_append, List.length_cons, List.length_nil]; omega) (Nat.le_trans HO1.out.2.size HM1.out.2.size) ?_
  intro v2 y2 hown hgrow
  have HO2 := Lib.hid (Own8.more rfl HO1.out HM1.out rfl hown hgrow)
  clear hown hgrow HO1 HM1 HS1
  refine hK.out _ _ HO2.out.2 (fun _ => ?_)
  clear hK K
  (try simp only [Act.put, List.setIfInBounds_toArray, List.set_cons_zero, List.set_cons_succ])
  refine wpTree.one (fun K hK => ?_)
  go_simp
  go_at_call 45
  refine (rfvector_any m.f HOK.out.f _).mono ?_
  rintro e y3 ⟨u3, rfl, hM⟩
  obtain ⟨A3, s3, rfl, hS⟩ := src_own hM.1
  have HM3 := Lib.hid hM
  have HS3 := Lib.hid hS
  have HH3 := Lib.hid (HO2.out.2.trans (hM.2.mono HO2.out.2.size))
  refine hK.out _ _ HH3.out (fun _ => ?_)
  clear hK K hM hS
  (try simp only [Act.put, List.setIfInBounds_toArray, List.set_cons_zero, List.set_cons_succ])
  refine wpTree.one (fun K hK => ?_)
  refine step_append_u8 _ (by rfl) _ _ rfl x1.heap.size v2 ([1] ++ [q, r]).length (u8s ([1] ++ [q, r])) rfl (own_next HO2.out.1 HM3.out.2 HO2.out.2.size) A3 (encV m.f).length s3 (u8s (encV m.f)) rfl (u8s_len _) HS3.out (u8s_one _) (by simp only [List.length_append, List.length_cons, List.length_nil]; have := HLL.out; omega) (Nat.le_trans HO2.out.2.size HM3.out.2.size) ?_
  intro v4 y4 hown hgrow
  have HO4 := Lib.hid (Own8.more rfl HO2.out HM3.out rfl hown hgrow)
  clear hown hgrow HO2 HM3 HS3
  refine hK.out _ _ HO4.out.2 (fun _ => ?_)
  clear hK K
  (try simp only [Act.put, List.setIfInBounds_toArray, List.set_cons_zero, List.set_cons_succ])
  (repeat (first | (refine wpTree.take (v := undef) (Or.inr ⟨by rfl, rfl⟩) ?_; simp only [Act.put, List.setIfInBounds_toArray, List.set_cons_zero, List.set_cons_succ]) | (refine wpTree.take (v := .agg (vl m.f).toArray) (yieldsIf_load_mid rfl 24 _ rfl _ _ rfl (vl m.f) _ ?_ Tryz.underlying24 rfl (vinfoL _)) ?_; (focus (intro wq hS; exact (HQ.out wq hS).2.1)); simp only [Act.put, List.setIfInBounds_toArray, List.set_cons_zero, List.set_cons_succ]) | (refine wpTree.take (v := .agg m.o.plain.toArray) (yieldsIf_load_mid rfl 35 _ rfl _ _ rfl m.o.plain _ ?_ Tryz.underlying35 rfl (pinfoL6 _)) ?_; (focus (intro wq hS; exact (HQ.out wq hS).2.2.1)); simp only [Act.put, List.setIfInBounds_toArray, List.set_cons_zero, List.set_cons_succ]) | (refine wpTree.take (v := ?_) (Or.inl ⟨by rfl, ?_⟩) ?_; rotate_left; (focus (intro wq hS; obtain ⟨-, -, -, -, c0, c1, c2, c3, ct⟩ := HQ.out wq hS; go_simp; (try (with_reducible rfl)); done)); simp only [Act.put, List.setIfInBounds_toArray, List.set_cons_zero, List.set_cons_succ])))
  refine wpTree.done ?_
  go_upto_region 5 with fail
  refine wp_region_tree (S := (fun W' => Below x1.heap.size x1 W')) (.take 0 (.take 1 (.take 2 (.take 5 (.take 6 (.one 3 (.one 4 (.one 7 (.one 8 (.take 9 .nil)))))))))) 9999 (by kernel_rfl) (by kernel_rfl) (by kernel_rfl) (by kernel_rfl) (by kernel_rfl) (fun _ _ d _ _ h => by cases d <;> exact h) HO4.out.2.drew (fun hHeld => ?_); simp only [Tree.map, List.getElem?_toArray, List.getElem?_cons_zero, List.getElem?_cons_succ]
  (repeat (first | (refine wpTree.take (v := undef) (Or.inr ⟨by rfl, rfl⟩) ?_; simp only [Act.put, List.setIfInBounds_toArray, List.set_cons_zero, List.set_cons_succ]) | (refine wpTree.take (v := .agg (vl m.f).toArray) (yieldsIf_load_mid rfl 24 _ rfl _ _ rfl (vl m.f) _ ?_ Tryz.underlying24 rfl (vinfoL _)) ?_; (focus (intro wq hS; exact (HQ.out wq hS).2.1)); simp only [Act.put, List.setIfInBounds_toArray, List.set_cons_zero, List.set_cons_succ]) | (refine wpTree.take (v := .agg m.o.plain.toArray) (yieldsIf_load_mid rfl 35 _ rfl _ _ rfl m.o.plain _ ?_ Tryz.underlying35 rfl (pinfoL6 _)) ?_; (focus (intro wq hS; exact (HQ.out wq hS).2.2.1)); simp only [Act.put, List.setIfInBounds_toArray, List.set_cons_zero, List.set_cons_succ]) | (refine wpTree.take (v := ?_) (Or.inl ⟨by rfl, ?_⟩) ?_; rotate_left; (focus (intro wq hS; obtain ⟨-, -, -, -, c0, c1, c2, c3, ct⟩ := HQ.out wq hS; go_simp; (try (with_reducible rfl)); done)); simp only [Act.put, List.setIfInBounds_toArray, List.set_cons_zero, List.set_cons_succ])))
  obtain ⟨xe, hxd⟩ : ∃ xe, xe = y4.drew := ⟨_, rfl⟩
  have HO4 := Lib.hid (show Own8 x1.heap.size x1 xe v4 ([1] ++ [q, r] ++ encV m.f) by rw [hxd]; exact ⟨HO4.out.1, HO4.out.2.drew⟩)
  rw [← hxd]
  clear hxd hHeld
  refine wpTree.one (fun K hK => ?_)
  go_simp
  go_at_call 46
  refine (rfnum_any m.t _ HOK.out.t).mono ?_
  rintro e y5 ⟨u5, rfl, hM⟩
  obtain ⟨A5, s5, rfl, hS⟩ := src_own hM.1
  have HM5 := Lib.hid hM
  have HS5 := Lib.hid hS
  have HH5 := Lib.hid (HO4.out.2.trans (hM.2.mono HO4.out.2.size))
  refine hK.out _ _ HH5.out (fun _ => ?_)
  clear hK K hM hS
  (try simp only [Act.put, List.setIfInBounds_toArray, List.set_cons_zero, List.set_cons_succ])
  refine wpTree.one (fun K hK => ?_)
  refine step_append_u8 _ (by rfl) _ _ rfl x1.heap.size v4 ([1] ++ [q, r] ++ encV m.f).length (u8s ([1] ++ [q, r] ++ encV m.f)) rfl (own_next HO4.out.1 HM5.out.2 HO4.out.2.size) A5 (enc m.t).length s5 (u8s (enc m.t)) rfl (u8s_len _) HS5.out (u8s_one _) (by simp only [List.length_append, List.length_cons, List.length_nil]; have := HLL.out; omega) (Nat.le_trans HO4.out.2.size HM5.out.2.size) ?_
  intro v6 y6 hown hgrow
  have HO6 := Lib.hid (Own8.more rfl HO4.out HM5.out rfl hown hgrow)
  clear hown hgrow HO4 HM5 HS5
  refine hK.out _ _ HO6.out.2 (fun _ => ?_)
  clear hK K
  (try simp only [Act.put, List.setIfInBounds_toArray, List.set_cons_zero, List.set_cons_succ])
  refine wpTree.one (fun K hK => ?_)
  go_simp
  go_at_call 47
  refine (rwriteop6_any m.o HOO.out _).mono ?_
  rintro e y7 ⟨u7, rfl, hM⟩
  obtain ⟨A7, s7, rfl, hS⟩ := src_own hM.1
  have HM7 := Lib.hid hM
  have HS7 := Lib.hid hS
  have HH7 := Lib.hid (HO6.out.2.trans (hM.2.mono HO6.out.2.size))
  refine hK.out _ _ HH7.out (fun _ => ?_)
  clear hK K hM hS
  (try simp only [Act.put, List.setIfInBounds_toArray, List.set_cons_zero, List.set_cons_succ])
  refine wpTree.one (fun K hK => ?_)
  refine step_append_u8 _ (by rfl) _ _ rfl x1.heap.size v6 ([1] ++ [q, r] ++ encV m.f ++ enc m.t).length (u8s ([1] ++ [q, r] ++ encV m.f ++ enc m.t)) rfl (own_next HO6.out.1 HM7.out.2 HO6.out.2.size) A7 (encO m.o).length s7 (u8s (encO m.o)) rfl (u8s_len _) HS7.out (u8s_one _) (by simp only [List.length_append, List.length_cons, List.length_nil]; have := HLL.out; have := HLO.out; omega) (Nat.le_trans HO6.out.2.size HM7.out.2.size) ?_
  intro v8 y8 hown hgrow
  have HO8 := Lib.hid (Own8.more rfl HO6.out HM7.out rfl hown hgrow)
  clear hown hgrow HO6 HM7 HS7
  refine hK.out _ _ HO8.out.2 (fun _ => ?_)
  clear hK K
  (try simp only [Act.put, List.setIfInBounds_toArray, List.set_cons_zero, List.set_cons_succ])
  (repeat (first | (refine wpTree.take (v := undef) (Or.inr ⟨by rfl, rfl⟩) ?_; simp only [Act.put, List.setIfInBounds_toArray, List.set_cons_zero, List.set_cons_succ]) | (refine wpTree.take (v := .agg (vl m.f).toArray) (yieldsIf_load_mid rfl 24 _ rfl _ _ rfl (vl m.f) _ ?_ Tryz.underlying24 rfl (vinfoL _)) ?_; (focus (intro wq hS; exact (HQ.out wq hS).2.1)); simp only [Act.put, List.setIfInBounds_toArray, List.set_cons_zero, List.set_cons_succ]) | (refine wpTree.take (v := .agg m.o.plain.toArray) (yieldsIf_load_mid rfl 35 _ rfl _ _ rfl m.o.plain _ ?_ Tryz.underlying35 rfl (pinfoL6 _)) ?_; (focus (intro wq hS; exact (HQ.out wq hS).2.2.1)); simp only [Act.put, List.setIfInBounds_toArray, List.set_cons_zero, List.set_cons_succ]) | (refine wpTree.take (v := ?_) (Or.inl ⟨by rfl, ?_⟩) ?_; rotate_left; (focus (intro wq hS; obtain ⟨-, -, -, -, c0, c1, c2, c3, ct⟩ := HQ.out wq hS; go_simp; (try (with_reducible rfl)); done)); simp only [Act.put, List.setIfInBounds_toArray, List.set_cons_zero, List.set_cons_succ])))
  refine wpTree.done ?_
  go_wp2_with fail
  go_ret
  exact ⟨v8, rfl, by rw [HEN.out]; exact own_le HO8.out.1 HB.out.size, HB.out.trans (HO8.out.2.mono HB.out.size)⟩
set_option maxRecDepth 20000 in
set_option maxHeartbeats 8000000 in
theorem rw_pac (m : Iv) (ho : m.Ok) (h256 : ∀ y ∈ m.x.p.bs, y < 256) (hr : rightI m = true) (hk : m.k = 6) (h1 : hC m.k = false) (h2 : hS m.k = false) (h3 : hN m.k = false) (h4 : hO m.k = false) (h5 : hP m.k = true) (e1 : (m.k == 1) = false) (e2 : (m.k == 2) = false) (e3 : (m.k == 3) = false) (e4 : (m.k == 4) = false) (e5 : (m.k == 5) = false) (e6 : (m.k == 6) = true) (W : World) : Calls Tryz.prog 15 #[.agg m.rc.toArray] W fun e W' => ∃ v, e = .returned v ∧ Made W W' v (encI m) := by
  have hb0 := (Below.refl W.heap.size W).alloc (Nat.le_refl _) (.cells m.rc.toArray 39)
  have hbk := Blk.new W 39 m.rc.toArray
  have HOK := Lib.hid ho
  have hrt := Pk.right_of (body_pk hr h5)
  have HP := Lib.hid (And.intro hrt h256)
  have HPL := Lib.hid (encP_len hrt h256)
  obtain ⟨E, hE⟩ : ∃ E, E = Pk.encP m.x.p := ⟨_, rfl⟩
  obtain ⟨nE, hnE⟩ : ∃ nE, E.length = nE := ⟨_, rfl⟩
  rw [← hE] at HPL
  have HWP := Lib.hid (show ∀ w, Calls Tryz.prog 49 #[.agg (rpc m.x.p).toArray] w fun e W' => ∃ v, e = .returned v ∧ Made w W' v E from fun w => by rw [hE]; exact rwrite15_any m.x.p HP.out.1 HP.out.2 w)
  have HEN := Lib.hid (show encI m = [6] ++ (enc nE ++ E) by unfold encI; rw [h1, h2, h3, h4, h5, encw (k := m.k) (q := 6) (by rw [hk]; rfl) (by omega), ← hE, hnE]; simp)
  have HN := Lib.hid hnE
  obtain ⟨F, hF⟩ : ∃ F, F = enc nE ++ E := ⟨_, rfl⟩
  have HF := Lib.hid (show F.length ≤ 2020 by rw [hF, List.length_append]; have := HPL.out; have := enc_len nE (by omega); omega)
  rw [← hF] at HEN
  have HFE := Lib.hid hF
  clear hrt hE hnE hF
  have ew : IntKind.u8.wrap m.k = 6 := by rw [hk]; rfl
  clear h1 h2 h3 h4 h5 hr h256 ho
  go_enter Tryz.func15, Tryz.ntmps15
  go_upto_region 1 with fail
  obtain ⟨x1, hx1⟩ : ∃ x1, x1 = W.alloc (.cells m.rc.toArray 39) := ⟨_, rfl⟩
  rw [← hx1] at hb0 hbk ⊢
  have HB := Lib.hid hb0
  have HQ := Lib.hid (fun w' (hb : Below x1.heap.size x1 w') => riv_all (hbk.next hb))
  obtain ⟨-, -, -, -, c0, -, -, -, -⟩ := HQ.out x1 (Below.refl _ _)
  clear hx1 hb0 hbk
  go_upto_region 2 with (refine wpList_buildSlice2 rfl _ _ rfl rfl rfl ?_)
  clear ew c0
  obtain ⟨x2, hx2⟩ : ∃ x2, x2 = x1.alloc (.cells #[.int .u8 6] 5) := ⟨_, rfl⟩
  have hO1 : Own8 x1.heap.size x1 (x1.alloc (.cells #[.int .u8 6] 5)) (.slice (some ⟨x1.heap.size, 0, none⟩) 1 1) [6] := Own8.first (made_one x1 6)
  rw [← hx2] at hO1 ⊢
  obtain ⟨v1, hv1⟩ : ∃ v1 : Value, v1 = .slice (some ⟨x1.heap.size, 0, none⟩) 1 1 := ⟨_, rfl⟩
  rw [← hv1] at hO1 ⊢
  have HO1 := Lib.hid hO1
  obtain ⟨-, -, -, -, c0, -, -, -, -⟩ := HQ.out x2 HO1.out.2
  clear hx2 hv1 hO1 hk
  go_upto_region 14 with fail
  obtain ⟨-, -, -, rx, -, -, -, -, -⟩ := HQ.out x2 HO1.out.2
  clear c0
  go_upto_region 15 with (first | (refine wpList_load_mid rfl 37 _ rfl _ _ rfl (rpc m.x.p) _ rx Tryz.underlying37 rfl (rpinfo _) ?_) | (go_at_call 49; refine (HWP.out _).mono ?_; rintro e y3 ⟨u3, rfl, hM⟩; obtain ⟨A3, s3, rfl, hS⟩ := src_own hM.1; have HM3 := Lib.hid hM; have HS3 := Lib.hid hS; clear hM hS rx) | (go_at_call 48; have hTX := rftext_any A3 nE s3 E y3 HN.out (by rw [← HN.out]; exact HS3.out) (by have := HPL.out; have := HN.out; omega); rw [← HFE.out] at hTX; rw [HN.out]; refine hTX.mono ?_; clear hTX; rintro e y4 ⟨u4, rfl, hM⟩; obtain ⟨A4, s4, rfl, hS⟩ := src_own hM.1; have HM4 := Lib.hid (show Made x2 y4 (.slice A4 F.length s4) F from ⟨own_le hM.1 HM3.out.2.size, HM3.out.2.trans (hM.2.mono HM3.out.2.size)⟩); have HS4 := Lib.hid hS; clear hM hS) | (refine wpList_append_u8 _ rfl _ _ rfl x1.heap.size v1 ([6]).length (u8s ([6])) rfl (own_next HO1.out.1 HM4.out.2 HO1.out.2.size) A4 (F).length s4 (u8s (F)) rfl (u8s_len _) HS4.out (u8s_one _) (by simp only [List.length_cons, List.length_nil]; have := HF.out; omega) (Nat.le_trans HO1.out.2.size HM4.out.2.size) ?_; intro v2 y2 hown hgrow _; have HO2 := Lib.hid (Own8.more rfl HO1.out HM4.out rfl hown hgrow); clear hown hgrow HO1 HM4 HS4))
  go_wp2_with fail
  go_ret
  exact ⟨v2, rfl, by rw [HEN.out]; exact own_le HO2.out.1 HB.out.size, HB.out.trans (HO2.out.2.mono HB.out.size)⟩
/-- The document's writes an input that may be as its bytes. -/
theorem rwrite26_any (m : Iv) (ho : m.Ok) (h256 : ∀ y ∈ m.x.p.bs, y < 256) (hr : rightI m = true) (W : World) : Calls Tryz.prog 15 #[.agg m.rc.toArray] W fun e W' => ∃ v, e = .returned v ∧ Made W W' v (encI m) := by
  cases kd_any m.k with
  | ord h h1 h2 h3 h4 h5 => exact rw_ord m ho h256 hr h h1 h2 h3 h4 h5 (by simp [h]) (by simp [h]) (by simp [h]) (by simp [h]) (by simp [h]) (by simp [h]) W
  | sel h h1 h2 h3 h4 h5 =>
    rcases h with h | h
    · exact rw_sel2 m ho h256 hr h h1 h2 h3 h4 h5 (by simp [h]) (by simp [h]) (by simp [h]) (by simp [h]) (by simp [h]) (by simp [h]) W
    · exact rw_sel4 m ho h256 hr h h1 h2 h3 h4 h5 (by simp [h]) (by simp [h]) (by simp [h]) (by simp [h]) (by simp [h]) (by simp [h]) W
  | joi h h1 h2 h3 h4 h5 => exact rw_joi m ho h256 hr h h1 h2 h3 h4 h5 (by simp [h]) (by simp [h]) (by simp [h]) (by simp [h]) (by simp [h]) (by simp [h]) W
  | chk h h1 h2 h3 h4 h5 => exact rw_chk m ho h256 hr h h1 h2 h3 h4 h5 (by simp [h]) (by simp [h]) (by simp [h]) (by simp [h]) (by simp [h]) (by simp [h]) W
  | pac h h1 h2 h3 h4 h5 => exact rw_pac m ho h256 hr h h1 h2 h3 h4 h5 (by simp [h]) (by simp [h]) (by simp [h]) (by simp [h]) (by simp [h]) (by simp [h]) W
  | no h h1 h2 h3 h4 h5 =>
    have := body_of hr
    unfold bodyI at this
    rw [show withinB m.k 1 6 = false from by unfold withinB; simp; omega] at this
    simp at this
end In
end Go.Proofs.YtgnfachjobohoaaGreat

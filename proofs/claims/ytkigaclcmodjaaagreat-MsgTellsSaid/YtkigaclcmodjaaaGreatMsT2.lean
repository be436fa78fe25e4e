/-
The document's messages: plain data as these; their bytes.
The document's messages: a stance's bytes.
The document's messages: read of any bytes.
LabelBack holds: labels go there and back, in one way alone; cut anywhere, their bytes are none. No condition.
MsgKinds holds: of two messages that may be the bytes begin with the kind, and are the same just if the messages are equal. No condition.
MsgBack holds: messages go there and back, in one way alone; cut anywhere, their bytes are none; each is a text of a link. No condition.
MsgTells holds: which messages may be, are equal, their bytes, and the message of any bytes, is told. No condition.
-/
import Derived.Test.YtkigaclcmodjaaaGreatMsRa
import Derived.Test.YtkigaclcmodjaaaGreatLOpen
import Derived.Test.YtkigaclcmodjaaaGreatMs2
namespace Go.Proofs.YtkigaclcmodjaaaGreat
open Go.RowKit
set_option linter.unusedSimpArgs false
set_option linter.unusedVariables false
namespace Mg
set_option maxRecDepth 20000 in
set_option maxHeartbeats 8000000 in
theorem as23_any (m : Ms) (W : World) : Calls Tryz.prog 5 #[.agg (Ms.plain m).toArray] W fun e W' => e = .returned (.agg (Ms.plain m).toArray) ∧ Below W.heap.size W W' := by
  have bA := (Blk.new W 35 (Ms.plain m).toArray).alloc (.cells zrmA 44)
  have bR : Blk ((W.alloc (.cells (Ms.plain m).toArray 35)).alloc (.cells zrmA 44)) (W.heap.size + 1) 44 zrmA := Blk.new' (by simp)
  have hB := ((Below.refl W.heap.size W).alloc (Nat.le_refl _) (.cells (Ms.plain m).toArray 35)).alloc (by simp) (.cells zrmA 44)
  have hbl := rbuilt_all m
  go_enter Tryz.func5, Tryz.ntmps5
  go_upto_region 1 with fail
  obtain ⟨w1, hw1⟩ : ∃ w1, w1 = (W.alloc (.cells (Ms.plain m).toArray 35)).alloc (.cells zrmA 44) := ⟨_, rfl⟩
  rw [← hw1] at bA bR hB ⊢
  clear hw1
  obtain ⟨_, rl, rx, rs, c0, c1, c2, c3, c4⟩ := pm_all bA
  refine wp_region_tree (S := (fun w' => w'.cell? ⟨W.heap.size, 0, none⟩ = some (.int .i64 m.k) ∧ w'.cell? ⟨W.heap.size, 1, none⟩ = some (.int .i64 m.se) ∧ w'.cell? ⟨W.heap.size, 2, none⟩ = some (.int .i64 m.co) ∧ w'.cell? ⟨W.heap.size, 3, none⟩ = some (.int .i64 m.ca) ∧ w'.cell? ⟨W.heap.size, 4, none⟩ = some (.int .i64 m.ro) ∧ w'.rangeAt W.heap.size 5 m.l.cells ∧ w'.rangeAt W.heap.size 22 m.x.item ∧ w'.rangeAt W.heap.size 43 m.s.cells)) (.take 0 (.take 1 (.take 2 (.take 3 (.take 4 (.take 5 (.take 6 (.take 7 (.take 8 (.take 9 (.take 10 (.take 11 (.take 13 (.take 14 (.take 16 (.take 17 (.one 12 (.one 15 (.one 18 (.take 19 (.one 20 .nil))))))))))))))))))))) 9999 (by kernel_rfl) (by kernel_rfl) (by kernel_rfl) (by kernel_rfl) (by kernel_rfl) (fun _ _ d _ _ h => by cases d <;> exact h) ⟨c0, c1, c2, c3, c4, rl, rx, rs⟩ (fun hHeld => ?_); simp only [Tree.map, List.getElem?_toArray, List.getElem?_cons_zero, List.getElem?_cons_succ]
  (repeat (first | (refine wpTree.take (v := undef) (Or.inr ⟨by rfl, rfl⟩) ?_; simp only [Act.put, List.setIfInBounds_toArray, List.set_cons_zero, List.set_cons_succ]) | (refine wpTree.take (v := .agg (Lab.cells ?_).toArray) (yieldsIf_load_mid rfl 27 _ rfl _ _ rfl (Lab.cells _) _ ?_ Tryz.underlying27 rfl (linfo _)) ?_; rotate_left; (focus (intro _ hS; exact hS.2.2.2.2.2.1)); simp only [Act.put, List.setIfInBounds_toArray, List.set_cons_zero, List.set_cons_succ]) | (refine wpTree.take (v := .agg (Ev.item ?_).toArray) (yieldsIf_load_mid rfl 31 _ rfl _ _ rfl (Ev.item _) _ ?_ Tryz.underlying31 rfl (iinfo _)) ?_; rotate_left; (focus (intro _ hS; exact hS.2.2.2.2.2.2.1)); simp only [Act.put, List.setIfInBounds_toArray, List.set_cons_zero, List.set_cons_succ]) | (refine wpTree.take (v := .agg (St.cells ?_).toArray) (yieldsIf_load_mid rfl 33 _ rfl _ _ rfl (St.cells _) _ ?_ Tryz.underlying33 rfl (stinfo _)) ?_; rotate_left; (focus (intro _ hS; exact hS.2.2.2.2.2.2.2)); simp only [Act.put, List.setIfInBounds_toArray, List.set_cons_zero, List.set_cons_succ]) | (refine wpTree.take (v := ?_) (Or.inl ⟨by rfl, ?_⟩) ?_; rotate_left; (focus (intro _ hS; (try dsimp only at hS); go_split_ands; (try subst hS); go_simp; (try (with_reducible rfl)); done)); simp only [Act.put, List.setIfInBounds_toArray, List.set_cons_zero, List.set_cons_succ])))
  refine wpTree.one (fun K hK => ?_)
  go_simp
  go_at_call 21
  refine (as5_any m.l _).mono ?_
  rintro e w2 ⟨rfl, hb⟩
  have hb2 : Below w1.heap.size w1 w2 := (Below.refl _ _).drew.trans hb
  obtain ⟨_, rl, rx, rs, c0, c1, c2, c3, c4⟩ := pm_all (bA.next hb2)
  refine hK.out _ _ ⟨c0, c1, c2, c3, c4, rl, rx, rs⟩ (fun _ => ?_)
  clear hK K hb hHeld
  (try simp only [Act.put, List.setIfInBounds_toArray, List.set_cons_zero, List.set_cons_succ])
  refine wpTree.one (fun K hK => ?_)
  go_simp
  go_at_call 22
  refine (as6_any m.x _).mono ?_
  rintro e w3 ⟨rfl, hb⟩
  have hb3 : Below w1.heap.size w1 w3 := hb2.trans (hb.mono hb2.size)
  obtain ⟨_, rl, rx, rs, c0, c1, c2, c3, c4⟩ := pm_all (bA.next hb3)
  refine hK.out _ _ ⟨c0, c1, c2, c3, c4, rl, rx, rs⟩ (fun _ => ?_)
  clear hK K hb
  (try simp only [Act.put, List.setIfInBounds_toArray, List.set_cons_zero, List.set_cons_succ])
  refine wpTree.one (fun K hK => ?_)
  go_simp
  go_at_call 23
  refine (as11_any m.s _).mono ?_
  rintro e w4 ⟨rfl, hb⟩
  have hb4 : Below w1.heap.size w1 w4 := hb3.trans (hb.mono hb3.size)
  obtain ⟨_, rl, rx, rs, c0, c1, c2, c3, c4⟩ := pm_all (bA.next hb4)
  refine hK.out _ _ ⟨c0, c1, c2, c3, c4, rl, rx, rs⟩ (fun _ => ?_)
  clear hK K hb
  (try simp only [Act.put, List.setIfInBounds_toArray, List.set_cons_zero, List.set_cons_succ])
  have bR2 := bR.next hb4
  have hB2 := hB.trans (hb4.mono hB.size)
  refine wpTree.take (yields_build' (Ms.plain m).toArray (by rfl) 44 [(0, _), (1, _), (2, _), (3, _), (4, _), (5, _), (6, _), (7, _)] rfl hbl) ?_
  simp only [Act.put, List.setIfInBounds_toArray, List.set_cons_zero, List.set_cons_succ]
  refine wpTree.one (fun K hK => ?_)
  refine step_store_blk (by rfl) 44 _ _ rfl (W.heap.size + 1) 44 zrmA (Ms.plain m).toArray rfl rfl bR2 (rminfoA _) (zrm_siz _) (pm_one _) ?_
  have hS3 := below_setRow (Below.refl (W.heap.size + 1) w4) (Nat.le_refl _) (Ms.plain m).toArray
  have hc := fun i => hS3.cell (p := ⟨W.heap.size, i, none⟩) (Nat.lt_succ_self _)
  refine hK.out _ _ ⟨(hc 0).trans c0, (hc 1).trans c1, (hc 2).trans c2, (hc 3).trans c3, (hc 4).trans c4, fun j v hj => (hc (5 + j)).trans (rl j v hj), fun j v hj => (hc (22 + j)).trans (rx j v hj), fun j v hj => (hc (43 + j)).trans (rs j v hj)⟩ (fun _ => ?_)
  clear hK K
  refine wpTree.done ?_
  have hrow := bR2.setRow (Ms.plain m).toArray
  have hb3 := below_setRow hB2 (show W.heap.size ≤ W.heap.size + 1 by omega) (Ms.plain m).toArray
  clear hS3 hc c0 c1 c2 c3 c4 rl rx rs bA bR hB bR2 hB2
  go_wp2_with fail
  exact bodyPost_row (t := 44) (Ms.plain m).toArray rfl rfl rfl Tryz.underlying44 rfl (rminfoA _) hrow ⟨rfl, hb3⟩
theorem st_rng {w : World} {b : Nat} {s : St} (h : w.rangeAt b 43 s.cells) : w.rangeAt b 45 (vl s.f) := fun j v hv => by
  have := h (2 + j) v (by rw [st_2]; exact hv)
  rwa [show 43 + (2 + j) = 45 + j from by omega] at this
theorem enc_k {n : Nat} (h : n < 128) : enc n = [n] := enc_lo h
theorem own8_first {x : World} (n : Nat) : Own8 x.heap.size x (x.alloc (.cells #[.int .u8 (n : Nat)] 5)) (.slice (some ⟨x.heap.size, 0, none⟩) 1 1) [n] := ⟨own_one n (Nat.le_refl _), (Below.refl _ _).alloc (Nat.le_refl _) _⟩
theorem made_one (x : World) (n : Nat) : Made x (x.alloc (.cells #[.int .u8 (n : Nat)] 5)) (.slice (some ⟨x.heap.size, 0, none⟩) 1 1) [n] := ⟨own_one n (Nat.le_refl _), (Below.refl _ _).alloc (Nat.le_refl _) _⟩
theorem made_two (x : World) (a b : Nat) : Made x (x.alloc (.cells #[.int .u8 (a : Nat), .int .u8 (b : Nat)] 5)) (.slice (some ⟨x.heap.size, 0, none⟩) 2 2) [a, b] :=
  ⟨⟨rfl, Or.inr ⟨_, 2, _, rfl, Nat.le_refl _, heap_alloc_new x _, Nat.le_refl _, by simp [maxLen], rfl, rfl⟩⟩, (Below.refl _ _).alloc (Nat.le_refl _) _⟩
theorem src_one (x : World) (n : Nat) : Src (x.alloc (.cells #[.int .u8 (n : Nat)] 5)) (some ⟨x.heap.size, 0, none⟩) 1 (u8s [n]) := by
  obtain ⟨A, c, e, hS⟩ := src_own (made_one x n).1
  simp only [Value.slice.injEq] at e
  obtain ⟨rfl, _, rfl⟩ := e
  exact hS
theorem src_two (x : World) (a b : Nat) : Src (x.alloc (.cells #[.int .u8 (a : Nat), .int .u8 (b : Nat)] 5)) (some ⟨x.heap.size, 0, none⟩) 2 (u8s [a, b]) := by
  obtain ⟨A, c, e, hS⟩ := src_own (made_two x a b).1
  simp only [Value.slice.injEq] at e
  obtain ⟨rfl, _, rfl⟩ := e
  exact hS
set_option maxRecDepth 20000 in
set_option maxHeartbeats 8000000 in
theorem rw_lab (m : Ms) (ho : Ms.Bd m) (hr : rightM m = true) (k : Int) (n : Nat) (hk : m.k = k) (hkn : k = (n : Nat)) (hn : n ≤ 10) (e1 : (k == 1) = true) (e2 : (k == 2) = false) (e3 : (k == 3) = false) (e5 : (k == 5) = false) (e10 : (k == 10) = false) (W : World) : Calls Tryz.prog 14 #[.agg (Ms.plain m).toArray] W fun e W' => ∃ v, e = .returned v ∧ Made W W' v ([n] ++ encL m.l) := by
  have hb0 := (Below.refl W.heap.size W).alloc (Nat.le_refl _) (.cells (Ms.plain m).toArray 44)
  have hbk := Blk.new W 44 (Ms.plain m).toArray
  have HO := Lib.hid ho
  have hR : rightL m.l = true := by have := body_of hr; unfold bodyM at this; rw [hk, show hl k = true from e1] at this; exact this
  have HLL := Lib.hid (encL_len hR ho.l.f)
  have HW5 := Lib.hid (show ∀ w, Calls Tryz.prog 55 #[.agg m.l.cells.toArray] w fun e w' => ∃ v, e = .returned v ∧ Made w w' v (encL m.l) from fun w => by
    obtain ⟨nd, ca, se, hl, h1, h2, h3, h4, h5, h6, h7, h8⟩ := lab_nats hR
    have := rwrite5_any m.l.t nd m.l.n ca se m.l.f w (by omega) (by omega) (by omega) (by omega) (by omega) ho.l.f
    rw [← hl] at this
    exact this)
  clear hR hr
  go_enter Tryz.func14, Tryz.ntmps14
  go_upto_region 1 with fail
  obtain ⟨x1, hx1⟩ : ∃ x1, x1 = W.alloc (.cells (Ms.plain m).toArray 44) := ⟨_, rfl⟩
  rw [← hx1] at hb0 hbk ⊢
  have HB := Lib.hid hb0
  have HQ := Lib.hid (fun w' (hb : Below x1.heap.size x1 w') => pm_all (hbk.next hb))
  have ew : IntKind.u8.wrap k = (n : Nat) := by rw [hkn, IntKind.wrap_u8]; omega
  obtain ⟨_, _, _, _, c0, _, _, _, _⟩ := HQ.out x1 (Below.refl _ _)
  rw [hk] at c0
  clear hx1 hb0 hbk ho
  go_upto_region 2 with (refine wpList_buildSlice2 rfl _ _ rfl rfl rfl ?_)
  clear ew c0
  obtain ⟨x2, hx2⟩ : ∃ x2, x2 = x1.alloc (.cells #[.int .u8 (n : Nat)] 5) := ⟨_, rfl⟩
  have hO1 := own8_first (x := x1) n
  rw [← hx2] at hO1 ⊢
  obtain ⟨v1, hv1⟩ : ∃ v1 : Value, v1 = .slice (some ⟨x1.heap.size, 0, none⟩) 1 1 := ⟨_, rfl⟩
  rw [← hv1] at hO1 ⊢
  have HO1 := Lib.hid hO1
  obtain ⟨_, rl, rx, rs, c0, c1, c2, c3, c4⟩ := HQ.out x2 HO1.out.2
  rw [hk] at c0
  clear hx2 hv1 hO1
  clear rx rs c1 c2 c3 c4 hk hkn
  go_wp2_with (first | (refine wpList_load_mid rfl 38 _ rfl _ _ rfl m.l.cells _ rl Tryz.underlying38 rfl (rlinfo _) ?_) | (go_at_call 55; refine (HW5.out _).mono ?_; rintro e y1 ⟨u1, rfl, hM⟩; obtain ⟨A1, s1, rfl, hS⟩ := src_own hM.1; have HM1 := Lib.hid hM; have HS1 := Lib.hid hS; clear hM hS rl c0) | (refine wpList_append_u8 _ rfl _ _ rfl x1.heap.size v1 ([n]).length (u8s ([n])) rfl (own_next HO1.out.1 HM1.out.2 HO1.out.2.size) A1 (encL m.l).length s1 (u8s (encL m.l)) rfl (u8s_len _) HS1.out (u8s_one _) (by simp only [List.length_append, List.length_cons, List.length_nil]; have := HLL.out; omega) (Nat.le_trans HO1.out.2.size HM1.out.2.size) ?_; intro v2 y2 hown hgrow _; have HO2 := Lib.hid (Own8.more rfl HO1.out HM1.out rfl hown hgrow); clear hown hgrow HO1 HM1 HS1))
  go_ret
  exact ⟨v2, rfl, own_le HO2.out.1 HB.out.size, HB.out.trans (HO2.out.2.mono HB.out.size)⟩
set_option maxRecDepth 20000 in
set_option maxHeartbeats 8000000 in
theorem rw_ev2 (m : Ms) (ho : Ms.Bd m) (hr : rightM m = true) (k : Int) (n : Nat) (hk : m.k = k) (hkn : k = (n : Nat)) (hn : n ≤ 10) (e1 : (k == 1) = false) (e2 : (k == 2) = true) (e3 : (k == 3) = false) (e5 : (k == 5) = false) (e10 : (k == 10) = false) (W : World) : Calls Tryz.prog 14 #[.agg (Ms.plain m).toArray] W fun e W' => ∃ v, e = .returned v ∧ Made W W' v ([n] ++ encE m.x) := by
  have hb0 := (Below.refl W.heap.size W).alloc (Nat.le_refl _) (.cells (Ms.plain m).toArray 44)
  have hbk := Blk.new W 44 (Ms.plain m).toArray
  have HO := Lib.hid ho
  have hR : rightE m.x = true := by have := body_of hr; unfold bodyM at this; rw [hk, show hl k = false from e1, show hev k = true from by unfold hev; rw [e2, e3]; rfl] at this; exact this
  have HLL := Lib.hid (show (encE m.x).length ≤ 300 by unfold encE; rw [List.length_append]; have := encL_len (rightE_parts hR).1 ho.x.l.f; have := encO_len ho.x.o; omega)
  have HW6 := Lib.hid (fun w => rwrite6_any m.x ho.x hR w)
  clear hR hr
  go_enter Tryz.func14, Tryz.ntmps14
  go_upto_region 1 with fail
  obtain ⟨x1, hx1⟩ : ∃ x1, x1 = W.alloc (.cells (Ms.plain m).toArray 44) := ⟨_, rfl⟩
  rw [← hx1] at hb0 hbk ⊢
  have HB := Lib.hid hb0
  have HQ := Lib.hid (fun w' (hb : Below x1.heap.size x1 w') => pm_all (hbk.next hb))
  have ew : IntKind.u8.wrap k = (n : Nat) := by rw [hkn, IntKind.wrap_u8]; omega
  obtain ⟨_, _, _, _, c0, _, _, _, _⟩ := HQ.out x1 (Below.refl _ _)
  rw [hk] at c0
  clear hx1 hb0 hbk ho
  go_upto_region 2 with (refine wpList_buildSlice2 rfl _ _ rfl rfl rfl ?_)
  clear ew c0
  obtain ⟨x2, hx2⟩ : ∃ x2, x2 = x1.alloc (.cells #[.int .u8 (n : Nat)] 5) := ⟨_, rfl⟩
  have hO1 := own8_first (x := x1) n
  rw [← hx2] at hO1 ⊢
  obtain ⟨v1, hv1⟩ : ∃ v1 : Value, v1 = .slice (some ⟨x1.heap.size, 0, none⟩) 1 1 := ⟨_, rfl⟩
  rw [← hv1] at hO1 ⊢
  have HO1 := Lib.hid hO1
  obtain ⟨_, rl, rx, rs, c0, c1, c2, c3, c4⟩ := HQ.out x2 HO1.out.2
  rw [hk] at c0
  clear hx2 hv1 hO1
  clear rl rs c1 c2 c3 c4 hk hkn
  go_wp2_with (first | (refine wpList_load_mid rfl 41 _ rfl _ _ rfl m.x.item _ rx Tryz.underlying41 rfl (einfoL6 _) ?_) | (go_at_call 56; refine (HW6.out _).mono ?_; rintro e y1 ⟨u1, rfl, hM⟩; obtain ⟨A1, s1, rfl, hS⟩ := src_own hM.1; have HM1 := Lib.hid hM; have HS1 := Lib.hid hS; clear hM hS rx c0) | (refine wpList_append_u8 _ rfl _ _ rfl x1.heap.size v1 ([n]).length (u8s ([n])) rfl (own_next HO1.out.1 HM1.out.2 HO1.out.2.size) A1 (encE m.x).length s1 (u8s (encE m.x)) rfl (u8s_len _) HS1.out (u8s_one _) (by simp only [List.length_append, List.length_cons, List.length_nil]; have := HLL.out; omega) (Nat.le_trans HO1.out.2.size HM1.out.2.size) ?_; intro v2 y2 hown hgrow _; have HO2 := Lib.hid (Own8.more rfl HO1.out HM1.out rfl hown hgrow); clear hown hgrow HO1 HM1 HS1))
  go_ret
  exact ⟨v2, rfl, own_le HO2.out.1 HB.out.size, HB.out.trans (HO2.out.2.mono HB.out.size)⟩
set_option maxRecDepth 20000 in
set_option maxHeartbeats 8000000 in
theorem rw_ev3 (m : Ms) (ho : Ms.Bd m) (hr : rightM m = true) (k : Int) (n : Nat) (hk : m.k = k) (hkn : k = (n : Nat)) (hn : n ≤ 10) (e1 : (k == 1) = false) (e2 : (k == 2) = false) (e3 : (k == 3) = true) (e5 : (k == 5) = false) (e10 : (k == 10) = false) (W : World) : Calls Tryz.prog 14 #[.agg (Ms.plain m).toArray] W fun e W' => ∃ v, e = .returned v ∧ Made W W' v ([n] ++ encE m.x) := by
  have hb0 := (Below.refl W.heap.size W).alloc (Nat.le_refl _) (.cells (Ms.plain m).toArray 44)
  have hbk := Blk.new W 44 (Ms.plain m).toArray
  have HO := Lib.hid ho
  have hR : rightE m.x = true := by have := body_of hr; unfold bodyM at this; rw [hk, show hl k = false from e1, show hev k = true from by unfold hev; rw [e2, e3]; rfl] at this; exact this
  have HLL := Lib.hid (show (encE m.x).length ≤ 300 by unfold encE; rw [List.length_append]; have := encL_len (rightE_parts hR).1 ho.x.l.f; have := encO_len ho.x.o; omega)
  have HW6 := Lib.hid (fun w => rwrite6_any m.x ho.x hR w)
  clear hR hr
  go_enter Tryz.func14, Tryz.ntmps14
  go_upto_region 1 with fail
  obtain ⟨x1, hx1⟩ : ∃ x1, x1 = W.alloc (.cells (Ms.plain m).toArray 44) := ⟨_, rfl⟩
  rw [← hx1] at hb0 hbk ⊢
  have HB := Lib.hid hb0
  have HQ := Lib.hid (fun w' (hb : Below x1.heap.size x1 w') => pm_all (hbk.next hb))
  have ew : IntKind.u8.wrap k = (n : Nat) := by rw [hkn, IntKind.wrap_u8]; omega
  obtain ⟨_, _, _, _, c0, _, _, _, _⟩ := HQ.out x1 (Below.refl _ _)
  rw [hk] at c0
  clear hx1 hb0 hbk ho
  go_upto_region 2 with (refine wpList_buildSlice2 rfl _ _ rfl rfl rfl ?_)
  clear ew c0
  obtain ⟨x2, hx2⟩ : ∃ x2, x2 = x1.alloc (.cells #[.int .u8 (n : Nat)] 5) := ⟨_, rfl⟩
  have hO1 := own8_first (x := x1) n
  rw [← hx2] at hO1 ⊢
  obtain ⟨v1, hv1⟩ : ∃ v1 : Value, v1 = .slice (some ⟨x1.heap.size, 0, none⟩) 1 1 := ⟨_, rfl⟩
  rw [← hv1] at hO1 ⊢
  have HO1 := Lib.hid hO1
  obtain ⟨_, rl, rx, rs, c0, c1, c2, c3, c4⟩ := HQ.out x2 HO1.out.2
  rw [hk] at c0
  clear hx2 hv1 hO1
  clear rl rs c1 c2 c3 c4 hk hkn
  go_wp2_with (first | (refine wpList_load_mid rfl 41 _ rfl _ _ rfl m.x.item _ rx Tryz.underlying41 rfl (einfoL6 _) ?_) | (go_at_call 56; refine (HW6.out _).mono ?_; rintro e y1 ⟨u1, rfl, hM⟩; obtain ⟨A1, s1, rfl, hS⟩ := src_own hM.1; have HM1 := Lib.hid hM; have HS1 := Lib.hid hS; clear hM hS rx c0) | (refine wpList_append_u8 _ rfl _ _ rfl x1.heap.size v1 ([n]).length (u8s ([n])) rfl (own_next HO1.out.1 HM1.out.2 HO1.out.2.size) A1 (encE m.x).length s1 (u8s (encE m.x)) rfl (u8s_len _) HS1.out (u8s_one _) (by simp only [List.length_append, List.length_cons, List.length_nil]; have := HLL.out; omega) (Nat.le_trans HO1.out.2.size HM1.out.2.size) ?_; intro v2 y2 hown hgrow _; have HO2 := Lib.hid (Own8.more rfl HO1.out HM1.out rfl hown hgrow); clear hown hgrow HO1 HM1 HS1))
  go_ret
  exact ⟨v2, rfl, own_le HO2.out.1 HB.out.size, HB.out.trans (HO2.out.2.mono HB.out.size)⟩
set_option maxRecDepth 20000 in
set_option maxHeartbeats 8000000 in
theorem rw_sel (m : Ms) (ho : Ms.Bd m) (hr : rightM m = true) (k : Int) (n : Nat) (hk : m.k = k) (hkn : k = (n : Nat)) (hn : n ≤ 10) (e1 : (k == 1) = false) (e2 : (k == 2) = false) (e3 : (k == 3) = false) (e5 : (k == 5) = false) (e10 : (k == 10) = false) (W : World) : Calls Tryz.prog 14 #[.agg (Ms.plain m).toArray] W fun e W' => ∃ v, e = .returned v ∧ Made W W' v ([n] ++ [m.se.toNat]) := by
  have hb0 := (Below.refl W.heap.size W).alloc (Nat.le_refl _) (.cells (Ms.plain m).toArray 44)
  have hbk := Blk.new W 44 (Ms.plain m).toArray
  have HO := Lib.hid ho
  obtain ⟨q, hq, hq1⟩ : ∃ q : Nat, m.se = (q : Nat) ∧ q ≤ 12 := by
    have := body_of hr; unfold bodyM at this
    rw [hk, show hl k = false from e1, show hev k = false from by unfold hev; rw [e2, e3]; rfl] at this
    rw [show hst k = false from e10] at this
    cases h3 : hse k with
    | false => rw [h3] at this; exact absurd this (by simp)
    | true =>
      rw [h3] at this
      simp only [Bool.false_eq_true, if_false, if_true, Bool.and_eq_true] at this
      have := withinN this.1
      exact ⟨m.se.toNat, by omega, by omega⟩
  have es : IntKind.u8.wrap m.se = (q : Nat) := by rw [hq, IntKind.wrap_u8]; omega
  have HQ0 := Lib.hid hq
  clear hr hq
  go_enter Tryz.func14, Tryz.ntmps14
  go_upto_region 1 with fail
  obtain ⟨x1, hx1⟩ : ∃ x1, x1 = W.alloc (.cells (Ms.plain m).toArray 44) := ⟨_, rfl⟩
  rw [← hx1] at hb0 hbk ⊢
  have HB := Lib.hid hb0
  have HQ := Lib.hid (fun w' (hb : Below x1.heap.size x1 w') => pm_all (hbk.next hb))
  have ew : IntKind.u8.wrap k = (n : Nat) := by rw [hkn, IntKind.wrap_u8]; omega
  obtain ⟨_, _, _, _, c0, _, _, _, _⟩ := HQ.out x1 (Below.refl _ _)
  rw [hk] at c0
  clear hx1 hb0 hbk ho
  go_upto_region 2 with (refine wpList_buildSlice2 rfl _ _ rfl rfl rfl ?_)
  clear ew c0
  obtain ⟨x2, hx2⟩ : ∃ x2, x2 = x1.alloc (.cells #[.int .u8 (n : Nat)] 5) := ⟨_, rfl⟩
  have hO1 := own8_first (x := x1) n
  rw [← hx2] at hO1 ⊢
  obtain ⟨v1, hv1⟩ : ∃ v1 : Value, v1 = .slice (some ⟨x1.heap.size, 0, none⟩) 1 1 := ⟨_, rfl⟩
  rw [← hv1] at hO1 ⊢
  have HO1 := Lib.hid hO1
  obtain ⟨_, rl, rx, rs, c0, c1, c2, c3, c4⟩ := HQ.out x2 HO1.out.2
  rw [hk] at c0
  clear hx2 hv1 hO1
  clear rl rx rs c2 c3 c4 hk hkn
  go_wp2_with (first | (have hM := made_one x2 q; have hS := src_one x2 q; obtain ⟨y1, hy⟩ : ∃ y1, y1 = x2.alloc (.cells #[.int .u8 (q : Nat)] 5) := ⟨_, rfl⟩; obtain ⟨g1, hg⟩ : ∃ g1, g1 = x2.heap.size := ⟨_, rfl⟩; rw [← hy, ← hg] at hM hS ⊢; have HM1 := Lib.hid hM; have HS1 := Lib.hid hS; clear hM hS hy hg; (refine wpList_append_u8 _ rfl _ _ rfl x1.heap.size v1 ([n]).length (u8s ([n])) rfl (own_next HO1.out.1 HM1.out.2 HO1.out.2.size) (some ⟨g1, 0, none⟩) ([q]).length 1 (u8s ([q])) rfl (u8s_len _) HS1.out (u8s_one _) (by simp only [List.length_append, List.length_cons, List.length_nil]; omega) (Nat.le_trans HO1.out.2.size HM1.out.2.size) ?_; intro v2 y2 hown hgrow _; have HO2 := Lib.hid (Own8.more rfl HO1.out HM1.out rfl hown hgrow); clear hown hgrow HO1 HM1 HS1)))
  go_ret
  exact ⟨v2, rfl, by rw [HQ0.out]; exact own_le HO2.out.1 HB.out.size, HB.out.trans (HO2.out.2.mono HB.out.size)⟩
set_option maxRecDepth 20000 in
set_option maxHeartbeats 8000000 in
theorem rw_en (m : Ms) (ho : Ms.Bd m) (hr : rightM m = true) (k : Int) (n : Nat) (hk : m.k = k) (hkn : k = (n : Nat)) (hn : n ≤ 10) (e1 : (k == 1) = false) (e2 : (k == 2) = false) (e3 : (k == 3) = false) (e5 : (k == 5) = true) (e10 : (k == 10) = false) (W : World) : Calls Tryz.prog 14 #[.agg (Ms.plain m).toArray] W fun e W' => ∃ v, e = .returned v ∧ Made W W' v ([n] ++ [m.se.toNat] ++ enc (wordN m.co)) := by
  have hb0 := (Below.refl W.heap.size W).alloc (Nat.le_refl _) (.cells (Ms.plain m).toArray 44)
  have hbk := Blk.new W 44 (Ms.plain m).toArray
  have HO := Lib.hid ho
  obtain ⟨q, hq, hq1⟩ : ∃ q : Nat, m.se = (q : Nat) ∧ q ≤ 12 := by
    have := body_of hr; unfold bodyM at this
    rw [hk, show hl k = false from e1, show hev k = false from by unfold hev; rw [e2, e3]; rfl] at this
    rw [show hst k = false from e10] at this
    cases h3 : hse k with
    | false => rw [h3] at this; exact absurd this (by simp)
    | true =>
      rw [h3] at this
      simp only [Bool.false_eq_true, if_false, if_true, Bool.and_eq_true] at this
      have := withinN this.1
      exact ⟨m.se.toNat, by omega, by omega⟩
  have es : IntKind.u8.wrap m.se = (q : Nat) := by rw [hq, IntKind.wrap_u8]; omega
  have HQ0 := Lib.hid hq
  have wc := wrap_word m.co
  have HLL := Lib.hid (enc_len _ (wordN_lt m.co))
  clear hr hq
  go_enter Tryz.func14, Tryz.ntmps14
  go_upto_region 1 with fail
  obtain ⟨x1, hx1⟩ : ∃ x1, x1 = W.alloc (.cells (Ms.plain m).toArray 44) := ⟨_, rfl⟩
  rw [← hx1] at hb0 hbk ⊢
  have HB := Lib.hid hb0
  have HQ := Lib.hid (fun w' (hb : Below x1.heap.size x1 w') => pm_all (hbk.next hb))
  have ew : IntKind.u8.wrap k = (n : Nat) := by rw [hkn, IntKind.wrap_u8]; omega
  obtain ⟨_, _, _, _, c0, _, _, _, _⟩ := HQ.out x1 (Below.refl _ _)
  rw [hk] at c0
  clear hx1 hb0 hbk ho
  go_upto_region 2 with (refine wpList_buildSlice2 rfl _ _ rfl rfl rfl ?_)
  clear ew c0
  obtain ⟨x2, hx2⟩ : ∃ x2, x2 = x1.alloc (.cells #[.int .u8 (n : Nat)] 5) := ⟨_, rfl⟩
  have hO1 := own8_first (x := x1) n
  rw [← hx2] at hO1 ⊢
  obtain ⟨v1, hv1⟩ : ∃ v1 : Value, v1 = .slice (some ⟨x1.heap.size, 0, none⟩) 1 1 := ⟨_, rfl⟩
  rw [← hv1] at hO1 ⊢
  have HO1 := Lib.hid hO1
  obtain ⟨_, rl, rx, rs, c0, c1, c2, c3, c4⟩ := HQ.out x2 HO1.out.2
  rw [hk] at c0
  clear hx2 hv1 hO1
  clear rl rx rs c1 c2 c3 c4 hk hkn
  go_upto_region 9 with fail
  clear c0
  refine wp_region_tree (S := (fun W' => Below x1.heap.size x1 W')) (.take 0 (.take 1 (.take 2 (.take 3 (.take 6 (.take 7 (.take 8 (.one 4 (.one 5 (.one 9 (.one 10 (.take 11 .nil)))))))))))) 9999 (by kernel_rfl) (by kernel_rfl) (by kernel_rfl) (by kernel_rfl) (by kernel_rfl) (fun _ _ d _ _ h => by cases d <;> exact h) HO1.out.2.drew (fun hHeld => ?_); simp only [Tree.map, List.getElem?_toArray, List.getElem?_cons_zero, List.getElem?_cons_succ]
  (repeat (first | (refine wpTree.take (v := undef) (Or.inr ⟨by rfl, rfl⟩) ?_; simp only [Act.put, List.setIfInBounds_toArray, List.set_cons_zero, List.set_cons_succ]) | (refine wpTree.take (v := .agg (vl ?_).toArray) (yieldsIf_load_mid rfl 25 _ rfl _ _ rfl (vl _) _ ?_ Tryz.underlying25 rfl (vinfoL _)) ?_; rotate_left; (focus (intro wq hS; exact (st_rng (HQ.out wq hS).2.2.2.1))); simp only [Act.put, List.setIfInBounds_toArray, List.set_cons_zero, List.set_cons_succ]) | (refine wpTree.take (v := ?_) (Or.inl ⟨by rfl, ?_⟩) ?_; rotate_left; (focus (intro wq hS; obtain ⟨_, rl, rx, rs, c0, c1, c2, c3, c4⟩ := HQ.out wq hS; have s0 := rs 0 _ (st_0 m.s); have s1 := rs 1 _ (st_1 m.s); go_simp; (try (with_reducible rfl)); done)); simp only [Act.put, List.setIfInBounds_toArray, List.set_cons_zero, List.set_cons_succ])))
  obtain ⟨xd, hxd⟩ : ∃ xd, xd = x2.drew := ⟨_, rfl⟩
  have HO1 := Lib.hid (show Own8 x1.heap.size x1 xd v1 [n] by rw [hxd]; exact ⟨HO1.out.1, HO1.out.2.drew⟩)
  rw [← hxd]
  clear hxd hHeld es wc
  refine wpTree.one (fun K hK => ?_)
  go_simp
  have hM := made_one xd q; have hS := src_one xd q; obtain ⟨y1, hy⟩ : ∃ y1, y1 = xd.alloc (.cells #[.int .u8 (q : Nat)] 5) := ⟨_, rfl⟩; obtain ⟨g1, hg⟩ : ∃ g1, g1 = xd.heap.size := ⟨_, rfl⟩; rw [← hy, ← hg] at hM hS ⊢; have HM1 := Lib.hid hM; have HS1 := Lib.hid hS; clear hM hS hy hg
  have HH1 := Lib.hid (HO1.out.2.trans (HM1.out.2.mono HO1.out.2.size))
  refine hK.out _ _ HH1.out (fun _ => ?_)
  clear hK K
  (try simp only [Act.put, List.setIfInBounds_toArray, List.set_cons_zero, List.set_cons_succ])
  refine wpTree.one (fun K hK => ?_)
  refine step_append_u8 _ (by rfl) _ _ rfl x1.heap.size v1 ([n]).length (u8s ([n])) rfl (own_next HO1.out.1 HM1.out.2 HO1.out.2.size) (some ⟨g1, 0, none⟩) ([q]).length 1 (u8s ([q])) rfl (u8s_len _) HS1.out (u8s_one _) (by simp only [List.length_append, List.length_cons, List.length_nil]; omega) (Nat.le_trans HO1.out.2.size HM1.out.2.size) ?_
  intro v2 y2 hown hgrow
  have HO2 := Lib.hid (Own8.more rfl HO1.out HM1.out rfl hown hgrow)
  clear hown hgrow HO1 HM1 HS1
  refine hK.out _ _ HO2.out.2 (fun _ => ?_)
  clear hK K
  (try simp only [Act.put, List.setIfInBounds_toArray, List.set_cons_zero, List.set_cons_succ])
  refine wpTree.one (fun K hK => ?_)
  go_simp
  go_at_call 57
  refine (rfnum_any (wordN m.co) _ (wordN_lt _)).mono ?_
  rintro e y3 ⟨u3, rfl, hM⟩
  obtain ⟨A3, s3, rfl, hS⟩ := src_own hM.1
  have HM3 := Lib.hid hM
  have HS3 := Lib.hid hS
  have HH3 := Lib.hid (HO2.out.2.trans (hM.2.mono HO2.out.2.size))
  refine hK.out _ _ HH3.out (fun _ => ?_)
  clear hK K hM hS
  (try simp only [Act.put, List.setIfInBounds_toArray, List.set_cons_zero, List.set_cons_succ])
  refine wpTree.one (fun K hK => ?_)
  refine step_append_u8 _ (by rfl) _ _ rfl x1.heap.size v2 ([n] ++ [q]).length (u8s ([n] ++ [q])) rfl (own_next HO2.out.1 HM3.out.2 HO2.out.2.size) A3 (enc (wordN m.co)).length s3 (u8s (enc (wordN m.co))) rfl (u8s_len _) HS3.out (u8s_one _) (by simp only [List.length_append, List.length_cons, List.length_nil]; have := HLL.out; omega) (Nat.le_trans HO2.out.2.size HM3.out.2.size) ?_
  intro v4 y4 hown hgrow
  have HO4 := Lib.hid (Own8.more rfl HO2.out HM3.out rfl hown hgrow)
  clear hown hgrow HO2 HM3 HS3
  refine hK.out _ _ HO4.out.2 (fun _ => ?_)
  clear hK K
  (try simp only [Act.put, List.setIfInBounds_toArray, List.set_cons_zero, List.set_cons_succ])
  (repeat (first | (refine wpTree.take (v := undef) (Or.inr ⟨by rfl, rfl⟩) ?_; simp only [Act.put, List.setIfInBounds_toArray, List.set_cons_zero, List.set_cons_succ]) | (refine wpTree.take (v := ?_) (Or.inl ⟨by rfl, ?_⟩) ?_; rotate_left; (focus (intro _ hS; (try dsimp only at hS); go_split_ands; (try subst hS); go_simp; (try (with_reducible rfl)); done)); simp only [Act.put, List.setIfInBounds_toArray, List.set_cons_zero, List.set_cons_succ])))
  refine wpTree.done ?_
  go_wp2_with fail
  go_ret
  exact ⟨v4, rfl, by rw [HQ0.out]; exact own_le HO4.out.1 HB.out.size, HB.out.trans (HO4.out.2.mono HB.out.size)⟩
end Mg
end Go.Proofs.YtkigaclcmodjaaaGreat
namespace Go.Proofs.YtkigaclcmodjaaaGreat
open Go.RowKit
set_option linter.unusedSimpArgs false
set_option linter.unusedVariables false
namespace Mg
set_option maxRecDepth 20000 in
set_option maxHeartbeats 8000000 in
theorem rw_st0 (m : Ms) (ho : Ms.Bd m) (hr : rightM m = true) (k : Int) (n : Nat) (hk : m.k = k) (hkn : k = (n : Nat)) (hn : n ≤ 10) (hh : m.s.h = false) (e1 : (k == 1) = false) (e2 : (k == 2) = false) (e3 : (k == 3) = false) (e5 : (k == 5) = false) (e10 : (k == 10) = true) (W : World) : Calls Tryz.prog 14 #[.agg (Ms.plain m).toArray] W fun e W' => ∃ v, e = .returned v ∧ Made W W' v ([n] ++ [m.ca.toNat, m.ro.toNat] ++ [0]) := by
  have hb0 := (Below.refl W.heap.size W).alloc (Nat.le_refl _) (.cells (Ms.plain m).toArray 44)
  have hbk := Blk.new W 44 (Ms.plain m).toArray
  have HO := Lib.hid ho
  obtain ⟨q, r, hq, hq1, hr0, hr1⟩ : ∃ q r : Nat, m.ca = (q : Nat) ∧ q ≤ 12 ∧ m.ro = (r : Nat) ∧ r ≤ 21 := by
    have := body_of hr; unfold bodyM at this
    rw [hk, show hl k = false from e1, show hev k = false from by unfold hev; rw [e2, e3]; rfl, show hst k = true from e10] at this
    cases h3 : hse k with
    | true => exfalso; unfold hse withinB at h3; simp at h3 e10; omega
    | false =>
      rw [h3] at this
      simp only [Bool.false_eq_true, if_false, if_true, Bool.and_eq_true] at this
      have h7 := withinN this.1.1
      have h8 := withinN this.1.2
      exact ⟨m.ca.toNat, m.ro.toNat, by omega, by omega, by omega, by omega⟩
  have es : IntKind.u8.wrap m.ca = (q : Nat) := by rw [hq, IntKind.wrap_u8]; omega
  have er : IntKind.u8.wrap m.ro = (r : Nat) := by rw [hr0, IntKind.wrap_u8]; omega
  have HQ0 := Lib.hid (And.intro hq hr0)
  have HLL := Lib.hid (And.intro (enc_len _ ho.s.t) (encV_len _ ho.s.f))
  clear hr hq hr0
  go_enter Tryz.func14, Tryz.ntmps14
  go_upto_region 1 with fail
  obtain ⟨x1, hx1⟩ : ∃ x1, x1 = W.alloc (.cells (Ms.plain m).toArray 44) := ⟨_, rfl⟩
  rw [← hx1] at hb0 hbk ⊢
  have HB := Lib.hid hb0
  have HQ := Lib.hid (fun w' (hb : Below x1.heap.size x1 w') => pm_all (hbk.next hb))
  have ew : IntKind.u8.wrap k = (n : Nat) := by rw [hkn, IntKind.wrap_u8]; omega
  obtain ⟨_, _, _, _, c0, _, _, _, _⟩ := HQ.out x1 (Below.refl _ _)
  rw [hk] at c0
  clear hx1 hb0 hbk ho
  go_upto_region 2 with (refine wpList_buildSlice2 rfl _ _ rfl rfl rfl ?_)
  clear ew c0
  obtain ⟨x2, hx2⟩ : ∃ x2, x2 = x1.alloc (.cells #[.int .u8 (n : Nat)] 5) := ⟨_, rfl⟩
  have hO1 := own8_first (x := x1) n
  rw [← hx2] at hO1 ⊢
  obtain ⟨v1, hv1⟩ : ∃ v1 : Value, v1 = .slice (some ⟨x1.heap.size, 0, none⟩) 1 1 := ⟨_, rfl⟩
  rw [← hv1] at hO1 ⊢
  have HO1 := Lib.hid hO1
  obtain ⟨_, rl, rx, rs, c0, c1, c2, c3, c4⟩ := HQ.out x2 HO1.out.2
  rw [hk] at c0
  clear hx2 hv1 hO1
  clear rl rx rs c1 c2 hk hkn
  go_upto_region 12 with (first | (have hM := made_two x2 q r; have hS := src_two x2 q r; obtain ⟨y1, hy⟩ : ∃ y1, y1 = x2.alloc (.cells #[.int .u8 (q : Nat), .int .u8 (r : Nat)] 5) := ⟨_, rfl⟩; obtain ⟨g1, hg⟩ : ∃ g1, g1 = x2.heap.size := ⟨_, rfl⟩; rw [← hy, ← hg] at hM hS ⊢; have HM1 := Lib.hid hM; have HS1 := Lib.hid hS; clear hM hS hy hg; (refine wpList_append_u8 _ rfl _ _ rfl x1.heap.size v1 ([n]).length (u8s ([n])) rfl (own_next HO1.out.1 HM1.out.2 HO1.out.2.size) (some ⟨g1, 0, none⟩) ([q, r]).length 2 (u8s ([q, r])) rfl (u8s_len _) HS1.out (u8s_one _) (by simp only [List.length_append, List.length_cons, List.length_nil]; omega) (Nat.le_trans HO1.out.2.size HM1.out.2.size) ?_; intro v2 y2 hown hgrow _; have HO2 := Lib.hid (Own8.more rfl HO1.out HM1.out rfl hown hgrow); clear hown hgrow HO1 HM1 HS1)))
  (try clear es er c3 c4)
  (try clear c0)
  obtain ⟨_, _, _, rs, c0, _, _, _, _⟩ := HQ.out y2 HO2.out.2
  have s0 := rs 0 _ (st_0 m.s)
  rw [hh] at s0
  clear rs c0
  go_wp2_with (first | (have hM := (show Made y2 (y2.alloc (.cells #[.int .u8 0] 5)) (.slice (some ⟨y2.heap.size, 0, none⟩) 1 1) [0] from made_one y2 0); have hS := (show Src (y2.alloc (.cells #[.int .u8 0] 5)) (some ⟨y2.heap.size, 0, none⟩) 1 (u8s [0]) from src_one y2 0); obtain ⟨y3, hy⟩ : ∃ y3, y3 = y2.alloc (.cells #[.int .u8 0] 5) := ⟨_, rfl⟩; obtain ⟨g3, hg⟩ : ∃ g3, g3 = y2.heap.size := ⟨_, rfl⟩; rw [← hy, ← hg] at hM hS ⊢; have HM3 := Lib.hid hM; have HS3 := Lib.hid hS; clear hM hS hy hg; (refine wpList_append_u8 _ rfl _ _ rfl x1.heap.size v2 ([n] ++ [q, r]).length (u8s ([n] ++ [q, r])) rfl (own_next HO2.out.1 HM3.out.2 HO2.out.2.size) (some ⟨g3, 0, none⟩) ([0]).length 1 (u8s ([0])) rfl (u8s_len _) HS3.out (u8s_one _) (by simp only [List.length_append, List.length_cons, List.length_nil]; omega) (Nat.le_trans HO2.out.2.size HM3.out.2.size) ?_; intro v4 y4 hown hgrow _; have HO4 := Lib.hid (Own8.more rfl HO2.out HM3.out rfl hown hgrow); clear hown hgrow HO2 HM3 HS3)))
  go_ret
  exact ⟨v4, rfl, by rw [HQ0.out.1, HQ0.out.2]; exact own_le HO4.out.1 HB.out.size, HB.out.trans (HO4.out.2.mono HB.out.size)⟩
set_option maxRecDepth 20000 in
set_option maxHeartbeats 8000000 in
theorem rw_st1 (m : Ms) (ho : Ms.Bd m) (hr : rightM m = true) (k : Int) (n : Nat) (hk : m.k = k) (hkn : k = (n : Nat)) (hn : n ≤ 10) (hh : m.s.h = true) (e1 : (k == 1) = false) (e2 : (k == 2) = false) (e3 : (k == 3) = false) (e5 : (k == 5) = false) (e10 : (k == 10) = true) (W : World) : Calls Tryz.prog 14 #[.agg (Ms.plain m).toArray] W fun e W' => ∃ v, e = .returned v ∧ Made W W' v ([n] ++ [m.ca.toNat, m.ro.toNat] ++ [1] ++ enc m.s.t ++ encV m.s.f) := by
  have hb0 := (Below.refl W.heap.size W).alloc (Nat.le_refl _) (.cells (Ms.plain m).toArray 44)
  have hbk := Blk.new W 44 (Ms.plain m).toArray
  have HO := Lib.hid ho
  obtain ⟨q, r, hq, hq1, hr0, hr1⟩ : ∃ q r : Nat, m.ca = (q : Nat) ∧ q ≤ 12 ∧ m.ro = (r : Nat) ∧ r ≤ 21 := by
    have := body_of hr; unfold bodyM at this
    rw [hk, show hl k = false from e1, show hev k = false from by unfold hev; rw [e2, e3]; rfl, show hst k = true from e10] at this
    cases h3 : hse k with
    | true => exfalso; unfold hse withinB at h3; simp at h3 e10; omega
    | false =>
      rw [h3] at this
      simp only [Bool.false_eq_true, if_false, if_true, Bool.and_eq_true] at this
      have h7 := withinN this.1.1
      have h8 := withinN this.1.2
      exact ⟨m.ca.toNat, m.ro.toNat, by omega, by omega, by omega, by omega⟩
  have es : IntKind.u8.wrap m.ca = (q : Nat) := by rw [hq, IntKind.wrap_u8]; omega
  have er : IntKind.u8.wrap m.ro = (r : Nat) := by rw [hr0, IntKind.wrap_u8]; omega
  have HQ0 := Lib.hid (And.intro hq hr0)
  have HLL := Lib.hid (And.intro (enc_len _ ho.s.t) (encV_len _ ho.s.f))
  clear hr hq hr0
  go_enter Tryz.func14, Tryz.ntmps14
  go_upto_region 1 with fail
  obtain ⟨x1, hx1⟩ : ∃ x1, x1 = W.alloc (.cells (Ms.plain m).toArray 44) := ⟨_, rfl⟩
  rw [← hx1] at hb0 hbk ⊢
  have HB := Lib.hid hb0
  have HQ := Lib.hid (fun w' (hb : Below x1.heap.size x1 w') => pm_all (hbk.next hb))
  have ew : IntKind.u8.wrap k = (n : Nat) := by rw [hkn, IntKind.wrap_u8]; omega
  obtain ⟨_, _, _, _, c0, _, _, _, _⟩ := HQ.out x1 (Below.refl _ _)
  rw [hk] at c0
  clear hx1 hb0 hbk ho
  go_upto_region 2 with (refine wpList_buildSlice2 rfl _ _ rfl rfl rfl ?_)
  clear ew c0
  obtain ⟨x2, hx2⟩ : ∃ x2, x2 = x1.alloc (.cells #[.int .u8 (n : Nat)] 5) := ⟨_, rfl⟩
  have hO1 := own8_first (x := x1) n
  rw [← hx2] at hO1 ⊢
  obtain ⟨v1, hv1⟩ : ∃ v1 : Value, v1 = .slice (some ⟨x1.heap.size, 0, none⟩) 1 1 := ⟨_, rfl⟩
  rw [← hv1] at hO1 ⊢
  have HO1 := Lib.hid hO1
  obtain ⟨_, rl, rx, rs, c0, c1, c2, c3, c4⟩ := HQ.out x2 HO1.out.2
  rw [hk] at c0
  clear hx2 hv1 hO1
  clear rl rx rs c1 c2 hk hkn
  go_upto_region 12 with (first | (have hM := made_two x2 q r; have hS := src_two x2 q r; obtain ⟨y1, hy⟩ : ∃ y1, y1 = x2.alloc (.cells #[.int .u8 (q : Nat), .int .u8 (r : Nat)] 5) := ⟨_, rfl⟩; obtain ⟨g1, hg⟩ : ∃ g1, g1 = x2.heap.size := ⟨_, rfl⟩; rw [← hy, ← hg] at hM hS ⊢; have HM1 := Lib.hid hM; have HS1 := Lib.hid hS; clear hM hS hy hg; (refine wpList_append_u8 _ rfl _ _ rfl x1.heap.size v1 ([n]).length (u8s ([n])) rfl (own_next HO1.out.1 HM1.out.2 HO1.out.2.size) (some ⟨g1, 0, none⟩) ([q, r]).length 2 (u8s ([q, r])) rfl (u8s_len _) HS1.out (u8s_one _) (by simp only [List.length_append, List.length_cons, List.length_nil]; omega) (Nat.le_trans HO1.out.2.size HM1.out.2.size) ?_; intro v2 y2 hown hgrow _; have HO2 := Lib.hid (Own8.more rfl HO1.out HM1.out rfl hown hgrow); clear hown hgrow HO1 HM1 HS1)))
  (try clear es er c3 c4)
  (try clear c0)
  obtain ⟨_, _, _, rs, c0, _, _, _, _⟩ := HQ.out y2 HO2.out.2
  have s0 := rs 0 _ (st_0 m.s)
  rw [hh] at s0
  clear rs c0
  go_upto_region 14 with fail
  clear s0
  refine wp_region_tree (S := (fun W' => Below x1.heap.size x1 W')) (.take 0 (.take 3 (.take 4 (.take 5 (.take 8 (.take 9 (.take 10 (.one 1 (.one 2 (.one 6 (.one 7 (.one 11 (.one 12 (.take 13 .nil)))))))))))))) 9999 (by kernel_rfl) (by kernel_rfl) (by kernel_rfl) (by kernel_rfl) (by kernel_rfl) (fun _ _ d _ _ h => by cases d <;> exact h) HO2.out.2.drew (fun hHeld => ?_); simp only [Tree.map, List.getElem?_toArray, List.getElem?_cons_zero, List.getElem?_cons_succ]
  (repeat (first | (refine wpTree.take (v := undef) (Or.inr ⟨by rfl, rfl⟩) ?_; simp only [Act.put, List.setIfInBounds_toArray, List.set_cons_zero, List.set_cons_succ]) | (refine wpTree.take (v := .agg (vl ?_).toArray) (yieldsIf_load_mid rfl 25 _ rfl _ _ rfl (vl _) _ ?_ Tryz.underlying25 rfl (vinfoL _)) ?_; rotate_left; (focus (intro wq hS; exact (st_rng (HQ.out wq hS).2.2.2.1))); simp only [Act.put, List.setIfInBounds_toArray, List.set_cons_zero, List.set_cons_succ]) | (refine wpTree.take (v := ?_) (Or.inl ⟨by rfl, ?_⟩) ?_; rotate_left; (focus (intro wq hS; obtain ⟨_, rl, rx, rs, c0, c1, c2, c3, c4⟩ := HQ.out wq hS; have s0 := rs 0 _ (st_0 m.s); have s1 := rs 1 _ (st_1 m.s); go_simp; (try (with_reducible rfl)); done)); simp only [Act.put, List.setIfInBounds_toArray, List.set_cons_zero, List.set_cons_succ])))
  obtain ⟨xd, hxd⟩ : ∃ xd, xd = y2.drew := ⟨_, rfl⟩
  have HO2 := Lib.hid (show Own8 x1.heap.size x1 xd v2 ([n] ++ [q, r]) by rw [hxd]; exact ⟨HO2.out.1, HO2.out.2.drew⟩)
  rw [← hxd]
  clear hxd hHeld
  refine wpTree.one (fun K hK => ?_)
  go_simp
  have hM := (show Made xd (xd.alloc (.cells #[.int .u8 1] 5)) (.slice (some ⟨xd.heap.size, 0, none⟩) 1 1) [1] from made_one xd 1); have hS := (show Src (xd.alloc (.cells #[.int .u8 1] 5)) (some ⟨xd.heap.size, 0, none⟩) 1 (u8s [1]) from src_one xd 1); obtain ⟨y3, hy⟩ : ∃ y3, y3 = xd.alloc (.cells #[.int .u8 1] 5) := ⟨_, rfl⟩; obtain ⟨g3, hg⟩ : ∃ g3, g3 = xd.heap.size := ⟨_, rfl⟩; rw [← hy, ← hg] at hM hS ⊢; have HM3 := Lib.hid hM; have HS3 := Lib.hid hS; clear hM hS hy hg
  have HH3 := Lib.hid (HO2.out.2.trans (HM3.out.2.mono HO2.out.2.size))
  refine hK.out _ _ HH3.out (fun _ => ?_)
  clear hK K
  (try simp only [Act.put, List.setIfInBounds_toArray, List.set_cons_zero, List.set_cons_succ])
  refine wpTree.one (fun K hK => ?_)
  refine step_append_u8 _ (by rfl) _ _ rfl x1.heap.size v2 ([n] ++ [q, r]).length (u8s ([n] ++ [q, r])) rfl (own_next HO2.out.1 HM3.out.2 HO2.out.2.size) (some ⟨g3, 0, none⟩) ([1]).length 1 (u8s ([1])) rfl (u8s_len _) HS3.out (u8s_one _) (by simp only [List.length_append, List.length_cons, List.length_nil]; omega) (Nat.le_trans HO2.out.2.size HM3.out.2.size) ?_
  intro v4 y4 hown hgrow
  have HO4 := Lib.hid (Own8.more rfl HO2.out HM3.out rfl hown hgrow)
  clear hown hgrow HO2 HM3 HS3
  refine hK.out _ _ HO4.out.2 (fun _ => ?_)
  clear hK K
  (try simp only [Act.put, List.setIfInBounds_toArray, List.set_cons_zero, List.set_cons_succ])
  refine wpTree.one (fun K hK => ?_)
  go_simp
  go_at_call 57
  refine (rfnum_any m.s.t _ HO.out.s.t).mono ?_
  rintro e y5 ⟨u5, rfl, hM⟩
  obtain ⟨A5, s5, rfl, hS⟩ := src_own hM.1
  have HM5 := Lib.hid hM
  have HS5 := Lib.hid hS
  have HH5 := Lib.hid (HO4.out.2.trans (hM.2.mono HO4.out.2.size))
  refine hK.out _ _ HH5.out (fun _ => ?_)
  clear hK K hM hS
  (try simp only [Act.put, List.setIfInBounds_toArray, List.set_cons_zero, List.set_cons_succ])
  refine wpTree.one (fun K hK => ?_)
  refine step_append_u8 _ (by rfl) _ _ rfl x1.heap.size v4 ([n] ++ [q, r] ++ [1]).length (u8s ([n] ++ [q, r] ++ [1])) rfl (own_next HO4.out.1 HM5.out.2 HO4.out.2.size) A5 (enc m.s.t).length s5 (u8s (enc m.s.t)) rfl (u8s_len _) HS5.out (u8s_one _) (by simp only [List.length_append, List.length_cons, List.length_nil]; have := HLL.out; omega) (Nat.le_trans HO4.out.2.size HM5.out.2.size) ?_
  intro v6 y6 hown hgrow
  have HO6 := Lib.hid (Own8.more rfl HO4.out HM5.out rfl hown hgrow)
  clear hown hgrow HO4 HM5 HS5
  refine hK.out _ _ HO6.out.2 (fun _ => ?_)
  clear hK K
  (try simp only [Act.put, List.setIfInBounds_toArray, List.set_cons_zero, List.set_cons_succ])
  refine wpTree.one (fun K hK => ?_)
  go_simp
  go_at_call 58
  refine (rfvector_any m.s.f HO.out.s.f _).mono ?_
  rintro e y7 ⟨u7, rfl, hM⟩
  obtain ⟨A7, s7, rfl, hS⟩ := src_own hM.1
  have HM7 := Lib.hid hM
  have HS7 := Lib.hid hS
  have HH7 := Lib.hid (HO6.out.2.trans (hM.2.mono HO6.out.2.size))
  refine hK.out _ _ HH7.out (fun _ => ?_)
  clear hK K hM hS
  (try simp only [Act.put, List.setIfInBounds_toArray, List.set_cons_zero, List.set_cons_succ])
  refine wpTree.one (fun K hK => ?_)
  refine step_append_u8 _ (by rfl) _ _ rfl x1.heap.size v6 ([n] ++ [q, r] ++ [1] ++ enc m.s.t).length (u8s ([n] ++ [q, r] ++ [1] ++ enc m.s.t)) rfl (own_next HO6.out.1 HM7.out.2 HO6.out.2.size) A7 (encV m.s.f).length s7 (u8s (encV m.s.f)) rfl (u8s_len _) HS7.out (u8s_one _) (by simp only [List.length_append, List.length_cons, List.length_nil]; have := HLL.out; omega) (Nat.le_trans HO6.out.2.size HM7.out.2.size) ?_
  intro v8 y8 hown hgrow
  have HO8 := Lib.hid (Own8.more rfl HO6.out HM7.out rfl hown hgrow)
  clear hown hgrow HO6 HM7 HS7
  refine hK.out _ _ HO8.out.2 (fun _ => ?_)
  clear hK K
  (try simp only [Act.put, List.setIfInBounds_toArray, List.set_cons_zero, List.set_cons_succ])
  (repeat (first | (refine wpTree.take (v := undef) (Or.inr ⟨by rfl, rfl⟩) ?_; simp only [Act.put, List.setIfInBounds_toArray, List.set_cons_zero, List.set_cons_succ]) | (refine wpTree.take (v := ?_) (Or.inl ⟨by rfl, ?_⟩) ?_; rotate_left; (focus (intro _ hS; (try dsimp only at hS); go_split_ands; (try subst hS); go_simp; (try (with_reducible rfl)); done)); simp only [Act.put, List.setIfInBounds_toArray, List.set_cons_zero, List.set_cons_succ])))
  refine wpTree.done ?_
  go_wp2_with fail
  go_ret
  exact ⟨v8, rfl, by rw [HQ0.out.1, HQ0.out.2]; exact own_le HO8.out.1 HB.out.size, HB.out.trans (HO8.out.2.mono HB.out.size)⟩
theorem encw {k : Int} (h0 : 0 ≤ k) (h1 : k < 128) : enc (wordN k) = [k.toNat] := by
  have : wordN k = k.toNat := by unfold wordN; omega
  rw [this]; exact enc_k (by omega)
/-- The document's writes a message that may be as its bytes. -/
theorem rwrite23_any (m : Ms) (ho : Ms.Bd m) (hr : rightM m = true) (W : World) : Calls Tryz.prog 14 #[.agg (Ms.plain m).toArray] W fun e W' => ∃ v, e = .returned v ∧ Made W W' v (encM m) := by
  have hbd := body_of hr
  unfold bodyM at hbd
  have key : ∀ {l : List Nat}, encM m = l → (Calls Tryz.prog 14 #[.agg (Ms.plain m).toArray] W fun e W' => ∃ v, e = .returned v ∧ Made W W' v l) → Calls Tryz.prog 14 #[.agg (Ms.plain m).toArray] W fun e W' => ∃ v, e = .returned v ∧ Made W W' v (encM m) := fun h c => by rw [h]; exact c
  cases kd_any m.k with
  | lab h h1 h2 h3 h4 h5 =>
    refine key ?_ (rw_lab m ho hr 1 1 h rfl (by omega) rfl rfl rfl rfl rfl W)
    unfold encM; rw [h1, h2, h3, h4, h5, encw (by omega) (by omega), h]; simp
  | ev h h1 h2 h3 h4 h5 =>
    rcases h with h | h
    · refine key ?_ (rw_ev2 m ho hr 2 2 h rfl (by omega) rfl rfl rfl rfl rfl W)
      unfold encM; rw [h1, h2, h3, h4, h5, encw (by omega) (by omega), h]; simp
    · refine key ?_ (rw_ev3 m ho hr 3 3 h rfl (by omega) rfl rfl rfl rfl rfl W)
      unfold encM; rw [h1, h2, h3, h4, h5, encw (by omega) (by omega), h]; simp
  | sel h h1 h2 h3 h4 h5 =>
    rw [h1, h2, h3] at hbd
    simp only [Bool.false_eq_true, if_false, if_true, Bool.and_eq_true] at hbd
    have hse := withinN hbd.1
    refine key ?_ (rw_sel m ho hr m.k m.k.toNat rfl (by omega) (by omega) (by simp; omega) (by simp; omega) (by simp; omega) (by simp; omega) (by simp; omega) W)
    unfold encM; rw [h1, h2, h3, h4, h5, encw (k := m.k) (by omega) (by omega), encw (k := m.se) (by omega) (by omega)]; simp
  | en h h1 h2 h3 h4 h5 =>
    rw [h1, h2, h3] at hbd
    simp only [Bool.false_eq_true, if_false, if_true, Bool.and_eq_true] at hbd
    have hse := withinN hbd.1
    refine key ?_ (rw_en m ho hr 5 5 h rfl (by omega) rfl rfl rfl rfl rfl W)
    unfold encM; rw [h1, h2, h3, h4, h5, encw (k := m.k) (by omega) (by omega), encw (k := m.se) (by omega) (by omega), h]; simp
  | st h h1 h2 h3 h4 h5 =>
    rw [h1, h2, h3, h4] at hbd
    simp only [Bool.false_eq_true, if_false, if_true, Bool.and_eq_true] at hbd
    have hca := withinN hbd.1.1
    have hro := withinN hbd.1.2
    cases hh : m.s.h with
    | false =>
      refine key ?_ (rw_st0 m ho hr 10 10 h rfl (by omega) hh rfl rfl rfl rfl rfl W)
      unfold encM encSt; rw [h1, h2, h3, h4, h5, hh, encw (k := m.k) (by omega) (by omega), encw (k := m.ca) (by omega) (by omega), encw (k := m.ro) (by omega) (by omega), h]; simp [enc_k]
    | true =>
      refine key ?_ (rw_st1 m ho hr 10 10 h rfl (by omega) hh rfl rfl rfl rfl rfl W)
      unfold encM encSt; rw [h1, h2, h3, h4, h5, hh, encw (k := m.k) (by omega) (by omega), encw (k := m.ca) (by omega) (by omega), encw (k := m.ro) (by omega) (by omega), h]; simp [enc_k]
  | no h h1 h2 h3 h4 h5 =>
    rw [h1, h2, h3, h4] at hbd
    simp at hbd
end Mg
end Go.Proofs.YtkigaclcmodjaaaGreat
namespace Go.Proofs.YtkigaclcmodjaaaGreat
open Go.RowKit
set_option linter.unusedSimpArgs false
set_option linter.unusedVariables false
namespace Mg
/-- What is left of a read: the parser that goes on, and where. -/
def G2 (R : Except Int (Ms × List Nat)) (bs : List Nat) (p : Nat) (e : Int) (Q : List Nat → Except Int (Ms × List Nat)) : Prop := (e = 0 → R = Q (bs.drop p)) ∧ (e ≠ 0 → ∃ y, R = .error y)
theorem G2.step {α : Type} {R : Except Int (Ms × List Nat)} {bs : List Nat} {p p' : Nat} {e e' : Int} {P : List Nat → Except Int (α × List Nat)} {Q : α → List Nat → Except Int (Ms × List Nat)} {a : α} (h : G2 R bs p e (bindP P Q)) (hp : PostP P bs p p' e e' (fun x => a = x)) : G2 R bs p' e' (Q a) := by
  refine ⟨fun he' => ?_, fun he' => ?_⟩
  · have he : e = 0 := Classical.byContradiction fun hc => hp.1 hc he'
    have h2 := hp.2 he
    have h1 := h.1 he
    rcases hq : P (bs.drop p) with y | ⟨x, t⟩
    · rw [hq] at h2; exact absurd he' h2
    · rw [hq] at h2
      obtain ⟨rfl, _, hd⟩ := h2
      rw [h1, bindP_ok hq, hd]
  · by_cases he : e = 0
    · have h2 := hp.2 he
      rcases hq : P (bs.drop p) with y | ⟨x, t⟩
      · exact ⟨y, (h.1 he).trans (bindP_err hq)⟩
      · rw [hq] at h2; exact absurd h2.2.1 he'
    · exact h.2 he
theorem bindP_assoc {α β γ : Type} (P : List Nat → Except Int (α × List Nat)) (Q : α → List Nat → Except Int (β × List Nat)) (S : β → List Nat → Except Int (γ × List Nat)) (t : List Nat) : bindP (bindP P Q) S t = bindP P (fun a => bindP (Q a) S) t := by
  unfold bindP
  rcases P t with x | ⟨a, u⟩ <;> rfl
theorem G2.eq {R : Except Int (Ms × List Nat)} {bs : List Nat} {p : Nat} {e : Int} {Q Q' : List Nat → Except Int (Ms × List Nat)} (h : G2 R bs p e Q) (hq : ∀ t, Q t = Q' t) : G2 R bs p e Q' := ⟨fun he => (h.1 he).trans (hq _), h.2⟩
theorem G2.end_yes {R : Except Int (Ms × List Nat)} {bs : List Nat} {p : Nat} {e : Int} {m : Ms} (h : G2 R bs p e (mkM m)) (he : e = 0) (hd : bs.drop p = []) (hr : rightM m = true) : R = .ok (m, []) := by
  rw [h.1 he, hd]; unfold mkM; rw [if_pos hr]
theorem G2.end_bad {R : Except Int (Ms × List Nat)} {bs : List Nat} {p : Nat} {e : Int} {m : Ms} (h : G2 R bs p e (mkM m)) (hr : rightM m = false) : ∀ x, R ≠ .ok (x, []) := fun x hx => by
  by_cases he : e = 0
  · rw [h.1 he] at hx; unfold mkM at hx; rw [if_neg (by simp [hr])] at hx; cases hx
  · obtain ⟨y, hy⟩ := h.2 he; rw [hy] at hx; cases hx
theorem G2.end_no {R : Except Int (Ms × List Nat)} {bs : List Nat} {p : Nat} {e z : Int} {m : Ms} (h : G2 R bs p e (mkM m)) (hz : EndPost z e bs p) (hz0 : z ≠ 0) : ∀ x, R ≠ .ok (x, []) := fun x hx => by
  by_cases he : e = 0
  · rw [h.1 he] at hx
    unfold mkM at hx
    split at hx
    · simp only [Except.ok.injEq, Prod.mk.injEq] at hx
      exact hz0 (hz.2 ⟨he, hx.2⟩)
    · cases hx
  · obtain ⟨y, hy⟩ := h.2 he; rw [hy] at hx; cases hx
theorem off_cells (g : Nat) : ∀ (vs : List Value) (o : Nat) (w w' : World), Off g w w' → Off g w (w'.setCells g o vs)
  | [], _, _, _, h => h
  | v :: r, o, w, w', h => off_cells g r (o + 1) w _ (h.set o v)
/-- In the middle of the document's read. -/
structure RdS (W : World) (k g c : Nat) (A : Option Addr) (cc : Nat) (bs : List Nat) (w : World) (p : Nat) (e : Int) (m : Ms) : Prop where
  s : RS w k A cc bs p e
  g0 : Blk w g 44 zrmA
  c0 : Blk w c 44 (Ms.plain m).toArray
  b : Below W.heap.size W w
  ck : c ≠ k
  gk : g ≠ k
  cg : c ≠ g
  wk : W.heap.size ≤ k
  wc : W.heap.size ≤ c
  low : bs ≠ [] → ∀ b q, A = some ⟨b, q, none⟩ → b ≠ c
section
variable {W w w' : World} {k g c cc p p' : Nat} {A : Option Addr} {bs : List Nat} {e e' : Int} {m m' : Ms}
theorem RdS.read (h : RdS W k g c A cc bs w p e m) (hO : Off k w w') (hS : RS w' k A cc bs p' e') : RdS W k g c A cc bs w' p' e' m :=
  { h with s := hS, g0 := hO.blk h.g0 h.gk, c0 := hO.blk h.c0 h.ck, b := h.b.trans (hO.belowB h.wk h.b.size) }
theorem RdS.next (h : RdS W k g c A cc bs w p e m) (hb : Below w.heap.size w w') : RdS W k g c A cc bs w' p e m :=
  { h with s := h.s.next hb, g0 := h.g0.next hb, c0 := h.c0.next hb, b := h.b.trans (hb.mono h.b.size) }
theorem RdS.put (h : RdS W k g c A cc bs w p e m) (hO : Off c w w') (hc : Blk w' c 44 (Ms.plain m').toArray) : RdS W k g c A cc bs w' p e m' :=
  { h with s := h.s.off hO (Ne.symm h.ck) h.low, g0 := hO.blk h.g0 (Ne.symm h.cg), c0 := hc, b := h.b.trans (hO.belowB h.wc h.b.size) }
end
/-- What the document's read hands back. -/
def RdP (bs : List Nat) (v : Value) (ok : Bool) : Prop := (ok = true ∧ ∃ m, msgP bs = .ok (m, []) ∧ v = .agg (Ms.plain m).toArray) ∨ (ok = false ∧ (∀ m, msgP bs ≠ .ok (m, [])) ∧ v = .agg (Ms.plain (zM 0)).toArray)
theorem built_rz0 : Tryz.prog.built 44 [] = some (Ms.plain (zM 0)).toArray := by rw [built_rfillM, Instr.fill]
theorem smallP_lit {a b : Int} (h : a = b) : smallP a = smallP b := by rw [h]
theorem st_setH (s : St) (b : Bool) : St.cells { s with h := b } = s.cells.set 0 (.bool b) := by unfold St.cells; rfl
theorem st_setT (s : St) (t : Nat) : St.cells { s with t := t } = s.cells.set 1 (.int .u64 (t : Nat)) := by unfold St.cells; rfl
theorem pm_setSi {w : World} {g : Nat} {t : TypeId} {m : Ms} {i : Nat} {v : Value} {s : St} (h : Blk w g t (Ms.plain m).toArray) (hs : s.cells = m.s.cells.set i v) : Blk (w.setCell ⟨g, 43 + i, none⟩ v) g t (Ms.plain { m with s := s }).toArray := by
  have h1 := h.setCell (43 + i) v
  rw [pm_def] at h1 ⊢
  show Blk _ g t (m.hd ++ m.l.cells ++ m.x.item ++ s.cells).toArray
  have hl : (m.hd ++ m.l.cells ++ m.x.item).length = 43 := by simp only [List.length_append, hd_len, lab_len, item_len]
  have e : (m.hd ++ m.l.cells ++ m.x.item ++ m.s.cells).toArray.setIfInBounds (43 + i) v = (m.hd ++ m.l.cells ++ m.x.item ++ s.cells).toArray := by
    rw [List.setIfInBounds_toArray, List.set_append_right _ _ (by rw [hl]; omega), hl, Nat.add_sub_cancel_left, hs]
  rwa [e] at h1
theorem pm_setV {w : World} {g : Nat} {t : TypeId} {m : Ms} (h : Blk w g t (Ms.plain m).toArray) (f : Nat → Nat) : Blk (w.setCells g 45 (vl f)) g t (Ms.plain { m with s := { m.s with f := f } }).toArray := by
  rw [pm_def] at h ⊢
  show Blk _ g t (m.hd ++ m.l.cells ++ m.x.item ++ St.cells { m.s with f := f }).toArray
  unfold St.cells at h ⊢
  rw [← List.append_assoc] at h ⊢
  have := Blk.setMid (q := []) (vl f) (m.hd ++ m.l.cells ++ m.x.item ++ [.bool m.s.h, .int .u64 (m.s.t : Nat)]) (vl m.s.f) w (by rw [List.append_nil]; exact h) (by rw [vl_len, vl_len])
  rw [show (m.hd ++ m.l.cells ++ m.x.item ++ [Value.bool m.s.h, .int .u64 (m.s.t : Nat)]).length = 45 from by simp only [List.length_append, hd_len, lab_len, item_len, List.length_cons, List.length_nil], List.append_nil] at this
  exact this
theorem refnumA (k c : Nat) (A : Option Addr) (bs : List Nat) (hlen : bs.length ≤ 140737488355328) (hby : ∀ x ∈ bs, x < 256) (p : Nat) (e : Int) (W : World) (h : RS W k A c bs p e) :
    Calls Tryz.prog 42 #[.pointer (some ⟨k, 0, none⟩)] W fun r W' => ∃ (v p' : Nat) (e' : Int), r = .returned (.int .u64 (v : Nat)) ∧ RS W' k A c bs p' e' ∧ Off k W W' ∧ PostP (numP true 0) bs p p' e e' (fun x => v = x) := by
  by_cases he : e = 0
  · subst he
    refine (refnum_on k c A bs hlen hby p W h).mono ?_
    rintro r w1 ⟨v, p', e', rfl, hS, hO, hR⟩
    refine ⟨v, p', e', rfl, hS, hO, fun h => absurd rfl h, fun _ => ?_⟩
    unfold NumPost at hR
    rcases hq : numP true 0 (bs.drop p) with y | ⟨x, t⟩
    · rw [hq] at hR; exact hR.2
    · rw [hq] at hR; exact hR
  · refine (refnum_off k c A bs p e W h he).mono ?_
    rintro r w1 ⟨rfl, rfl⟩
    exact ⟨0, p, e, rfl, h, Off.refl _ _, PostP.bad he he⟩
structure FinP (R : Except Int (Ms × List Nat)) (bs : List Nat) (p : Nat) (e : Int) (m : Ms) : Prop where
  yes : e = 0 → bs.drop p = [] → rightM m = true → R = .ok (m, [])
  bad : rightM m = false → ∀ x, R ≠ .ok (x, [])
  no : ∀ z, EndPost z e bs p → z ≠ 0 → ∀ x, R ≠ .ok (x, [])
  lt : e = 0 → Ms.Lt m
theorem FinP.of {R : Except Int (Ms × List Nat)} {bs : List Nat} {p : Nat} {e : Int} {m : Ms} (h : G2 R bs p e (mkM m)) (hl : e = 0 → Ms.Lt m) : FinP R bs p e m := ⟨fun h1 h2 h3 => h.end_yes h1 h2 h3, fun h1 => h.end_bad h1, fun z h1 h2 => h.end_no h1 h2, hl⟩
theorem lt_plain {m : Ms} (hl : m.l = Lab.zero) (hx : m.x = Ev.zero) : Ms.Lt m := ⟨fun i => by rw [hl]; show (0 : Nat) < _; decide, by rw [hl]; show (0 : Nat) < _; decide, fun i => by rw [hx]; show (0 : Nat) < _; decide, by rw [hx]; show (0 : Nat) < _; decide⟩
set_option maxRecDepth 20000 in
set_option maxHeartbeats 32000000 in
theorem rread23_any (A : Option Addr) (cc : Nat) (bs : List Nat) (hlen : bs.length ≤ 140737488355328) (hc : bs.length ≤ cc) (hby : ∀ x ∈ bs, x < 256) (W : World) (hb : ByR W A bs) :
    Calls Tryz.prog 9 #[.slice A bs.length cc] W fun r W' => ∃ v ok, r = .returned (.tuple #[v, .bool ok]) ∧ Below W.heap.size W W' ∧ RdP bs v ok := by
  have b1 := (Below.refl W.heap.size W).alloc (Nat.le_refl _) (.cells zrmA 44)
  have hg := (Blk.new W 44 zrmA).alloc (.cells #[.slice A bs.length cc, .int .i64 0, .int .i64 0] 89)
  have hsz : (W.alloc (.cells zrmA 44)).heap.size = W.heap.size + 1 := by simp
  have b2 := b1.alloc (by rw [hsz]; omega) (.cells #[.slice A bs.length cc, .int .i64 0, .int .i64 0] 89)
  have hk := Blk.new (W.alloc (.cells zrmA 44)) 89 #[.slice A bs.length cc, .int .i64 0, .int .i64 0]
  rw [hsz] at hk
  obtain ⟨w0, hw0⟩ : ∃ w0, w0 = (W.alloc (.cells zrmA 44)).alloc (.cells #[.slice A bs.length cc, .int .i64 0, .int .i64 0] 89) := ⟨_, rfl⟩
  rw [← hw0] at hg hk b2
  have HLOW := Lib.hid (show bs ≠ [] → ∀ b q, A = some ⟨b, q, none⟩ → b < W.heap.size from fun hne b q e => by
    obtain ⟨b', q', e', h1', _⟩ := hb.resolve_left hne
    rw [e] at e'
    cases e'
    exact h1')
  have HS := Lib.hid (show RS w0 (W.heap.size + 1) A cc bs 0 0 from ⟨hk, by
    by_cases hbs : bs = []
    · exact Or.inl hbs
    · obtain ⟨b, q, e, h1, h2⟩ := (hb.next b2).resolve_left hbs
      obtain ⟨b', q', e', h1', _⟩ := hb.resolve_left hbs
      rw [e] at e'
      cases e'
      exact Or.inr ⟨b, q, e, h1, by omega, h2⟩, Nat.zero_le _⟩)
  have HG := Lib.hid hg
  have HB := Lib.hid b2
  obtain ⟨R, hR⟩ : ∃ R, R = msgP bs := ⟨_, rfl⟩
  have HR := Lib.hid hR
  have HG2 := Lib.hid (show G2 R bs 0 0 (bindP (smallP 10) fun k => kindP (k : Nat)) from ⟨fun _ => by rw [hR, msgP_def, List.drop_zero], fun h => absurd rfl h⟩)
  have HRP := Lib.hid (show ∀ v ok, ((ok = true ∧ ∃ m, R = .ok (m, []) ∧ v = .agg (Ms.plain m).toArray) ∨ (ok = false ∧ (∀ m, R ≠ .ok (m, [])) ∧ v = .agg (Ms.plain (zM 0)).toArray)) → RdP bs v ok from fun v ok h => by rw [hR] at h; exact h)
  clear b1 hg hsz b2 hk hb hR HR
  go_enter Tryz.func9, Tryz.ntmps9
  go_upto_region 2 with fail
  rw [← hw0]
  clear hw0
  obtain ⟨k, hkE⟩ : ∃ k, k = W.heap.size + 1 := ⟨_, rfl⟩
  obtain ⟨g, hgE⟩ : ∃ g, g = W.heap.size := ⟨_, rfl⟩
  have HKE := Lib.hid (And.intro hkE hgE)
  have HS := Lib.hid (show RS w0 k A cc bs 0 0 by rw [hkE]; exact HS.out)
  have HG := Lib.hid (show Blk w0 g 44 zrmA by rw [hgE]; exact HG.out)
  (try rw [← hkE])
  (try rw [← hgE])
  clear hkE hgE
  go_wp2_with fail
  refine (refsmall_any k cc A bs hlen hby 10 (by decide) 0 0 w0 HS.out).mono ?_
  rintro r w1 ⟨n, p1, d1, rfl, hS, hO, hn10, hP⟩
  have HK1 := Lib.hid (HG2.out.step hP)
  have HB1 := Lib.hid (HB.out.trans (hO.belowB (B := W.heap.size) (by have := HKE.out.1; omega) HB.out.size))
  have HG1 := Lib.hid (hO.blk HG.out (by have := HKE.out.1; have := HKE.out.2; omega))
  have HS1 := Lib.hid hS
  have HN10 := Lib.hid hn10
  clear hP hO hS HS HB HG HG2 hn10
  go_upto_region 3 with (first | (refine wpList_build_lit (Ms.plain (zM (n : Nat))).toArray rfl 44 _ rfl (built_rzM (n : Nat)) ?_) | (refine wpList_store_blk rfl 44 _ _ rfl w1.heap.size 44 zrmA (Ms.plain (zM (n : Nat))).toArray rfl rfl (Blk.new' rfl) (rminfoA _) (zrm_siz _) (pm_one _) ?_; intro hy))
  have hbn : Below w1.heap.size w1 ((w1.alloc (.cells zrmA 44)).setRow w1.heap.size (Ms.plain (zM (n : Nat))).toArray) := below_setRow ((Below.refl _ _).alloc (Nat.le_refl _) _) (Nat.le_refl _) _
  obtain ⟨w2, hw2⟩ : ∃ w2, w2 = (w1.alloc (.cells zrmA 44)).setRow w1.heap.size (Ms.plain (zM (n : Nat))).toArray := ⟨_, rfl⟩
  rw [← hw2] at hbn hy ⊢
  obtain ⟨c, hcE⟩ : ∃ c, c = w1.heap.size := ⟨_, rfl⟩
  rw [← hcE] at hy ⊢
  have HD2 := Lib.hid (show RdS W k g c A cc bs w2 p1 d1 (zM (n : Nat)) from by
    have h1 := HKE.out.1
    have h2 := HKE.out.2
    have h3 := HB1.out.size
    have h4 := HS1.out.1.lt
    have h5 := HG1.out.lt
    exact ⟨HS1.out.next hbn, HG1.out.next hbn, hy, HB1.out.trans (hbn.mono HB1.out.size), by omega, by omega, by omega, by omega, by omega, fun hne b q e => by have := HLOW.out hne b q e; omega⟩)
  have c0 : World.cell? w2 ⟨c, 0, none⟩ = some (.int .i64 ((n : Nat) : Int)) := (pm_all HD2.out.c0).2.2.2.2.1
  clear hw2 hbn hy hcE HS1 HG1 HB1
  have hcs : n = 1 ∨ n = 2 ∨ n = 3 ∨ n = 10 ∨ n = 5 ∨ (n = 4 ∨ n = 6 ∨ n = 7 ∨ n = 8 ∨ n = 9) ∨ n = 0 := by have := HN10.out; omega
  rcases hcs with h0 | h0 | h0 | h0 | h0 | h0 | h0
  · skip
    have e1 : (((n : Nat) : Int) == 1) = true := by simp [h0]
    have e2 : (((n : Nat) : Int) == 2) = false := by simp [h0]
    have e3 : (((n : Nat) : Int) == 3) = false := by simp [h0]
    have e10 : (((n : Nat) : Int) == 10) = false := by simp [h0]
    have e5 : (((n : Nat) : Int) == 5) = false := by simp [h0]
    have HK2 := Lib.hid (show G2 R bs p1 d1 (bindP labP fun l => mkM { zM (n : Nat) with l := l }) from HK1.out.eq fun t => by unfold kindP; rw [show hl (n : Nat) = true from e1]; rfl)
    clear HK1
    go_wp2_with fail
    refine (refget5_any k cc A bs hlen hby p1 d1 w2 HD2.out.s).mono ?_
    rintro r w3 ⟨l, p2, e2, rfl, hS, hO, hlt, hP⟩
    have HK3 := Lib.hid (HK2.out.step hP)
    have HD3 := Lib.hid (HD2.out.read hO hS)
    have HLT := Lib.hid hlt
    clear hlt c0
    clear hP hO hS HD2 HK2
    have hth := HD3.out.c0.thereT (o := 5) (n := (l.cells).toArray.size) (by rw [List.size_toArray, List.size_toArray, pm_len, lab_len]; omega)
    have HD4 := Lib.hid (show RdS W k g c A cc bs (w3.setCells c 5 (l.cells)) p2 e2 { zM (n : Nat) with l := l } from HD3.out.put (off_cells c _ _ _ _ (Off.refl _ _)) (pm_setL HD3.out.c0 l))
    go_upto_region 19 with (refine wpList_store_mid rfl 38 _ _ rfl c 5 (l.cells).toArray rfl rfl hth (rlinfoA _) (lab_one _) ?_; show wpList _ _ _ _ _ (w3.setCells c 5 (l.cells)))
    obtain ⟨w4, hw⟩ : ∃ w4, w4 = w3.setCells c 5 (l.cells) := ⟨_, rfl⟩
    rw [← hw] at HD4 ⊢
    clear hw hth HD3
    have HFN := Lib.hid (show FinP R bs p2 e2 { zM (n : Nat) with l := l } from FinP.of HK3.out fun _ => ⟨HLT.out.1, HLT.out.2, fun i => by show (0 : Nat) < _; decide, by show (0 : Nat) < _; decide⟩)
    obtain ⟨m, hm⟩ : ∃ m : Ms, m = { zM (n : Nat) with l := l } := ⟨_, rfl⟩
    rw [← hm] at HFN HD4
    clear hm
    go_wp2_with fail
    refine (refend_any k cc A bs p2 e2 w4 HD4.out.s).mono ?_
    rintro r w20 ⟨z, rfl, hb, hz⟩
    have HZ := Lib.hid hz
    have HD20 := Lib.hid (HD4.out.next hb)
    clear hb hz HD4
    have rgx := HD20.out.c0.range
    have bg := HD20.out.g0
    by_cases hz0 : z = 0
    · have f1 : (z != 0) = false := by simpa using hz0
      obtain ⟨he1, hdr⟩ := HZ.out.1 hz0
      have HRR := Lib.hid (fun w => rright23_any m (HFN.out.lt he1) w)
      rcases hrm : rightM m with _ | _
      · rw [hrm] at HRR
        have HBD := Lib.hid (HFN.out.bad hrm)
        clear hz0 he1 hdr hrm
        go_wp2_with (first | (refine wpList_load_midg (by rfl) 44 _ rfl _ _ rfl (Ms.plain ?_) _ ?_ Tryz.underlying44 rfl (rminfo _) ?_; rotate_left; (focus assumption)) | (refine wpList_build_lit (Ms.plain (zM 0)).toArray rfl 44 _ rfl built_rz0 ?_) | (go_at_call 11; refine (HRR.out _).mono ?_; rintro r w21 ⟨rfl, hb⟩; have HB21 := Lib.hid (HD20.out.b.trans (hb.mono HD20.out.b.size)); have bg2 := HD20.out.g0.next hb; clear hb rgx bg HRR) | (refine wpList_store_blk rfl 44 _ _ rfl g 44 zrmA (Ms.plain (zM 0)).toArray rfl rfl bg2 (rminfoA _) (zrm_siz _) (pm_one _) ?_; intro hrow))
        refine bodyPost_row2 (t := 44) (Ms.plain (zM 0)) (.bool false) rfl rfl rfl rfl Tryz.underlying44 rfl (rminfo _) hrow ?_
        exact ⟨_, false, rfl, below_setRow HB21.out (Nat.le_of_eq HKE.out.2.symm) _, HRP.out _ _ (Or.inr ⟨rfl, HBD.out, rfl⟩)⟩
      · rw [hrm] at HRR
        have HYS := Lib.hid (HFN.out.yes he1 hdr hrm)
        clear hz0 he1 hdr hrm
        go_wp2_with (first | (refine wpList_load_midg (by rfl) 44 _ rfl _ _ rfl (Ms.plain ?_) _ ?_ Tryz.underlying44 rfl (rminfo _) ?_; rotate_left; (focus assumption)) | (go_at_call 11; refine (HRR.out _).mono ?_; rintro r w21 ⟨rfl, hb⟩; have HB21 := Lib.hid (HD20.out.b.trans (hb.mono HD20.out.b.size)); have bg2 := HD20.out.g0.next hb; have rg2 := (HD20.out.c0.next hb).range; clear hb rgx bg HRR) | (refine wpList_store_blk rfl 44 _ _ rfl g 44 zrmA (Ms.plain m).toArray rfl rfl bg2 (rminfoA _) (zrm_siz _) (pm_one _) ?_; intro hrow))
        refine bodyPost_row2 (t := 44) (Ms.plain m) (.bool true) rfl rfl rfl rfl Tryz.underlying44 rfl (rminfo _) hrow ?_
        exact ⟨_, true, rfl, below_setRow HB21.out (Nat.le_of_eq HKE.out.2.symm) _, HRP.out _ _ (Or.inl ⟨rfl, m, HYS.out, rfl⟩)⟩
    · have f1 : (z != 0) = true := by simpa using hz0
      have HBD := Lib.hid (HFN.out.no z HZ.out hz0)
      clear hz0
      go_wp2_with (first | (refine wpList_build_lit (Ms.plain (zM 0)).toArray rfl 44 _ rfl built_rz0 ?_) | (refine wpList_store_blk rfl 44 _ _ rfl g 44 zrmA (Ms.plain (zM 0)).toArray rfl rfl bg (rminfoA _) (zrm_siz _) (pm_one _) ?_; intro hrow))
      refine bodyPost_row2 (t := 44) (Ms.plain (zM 0)) (.bool false) rfl rfl rfl rfl Tryz.underlying44 rfl (rminfo _) hrow ?_
      exact ⟨_, false, rfl, below_setRow HD20.out.b (Nat.le_of_eq HKE.out.2.symm) _, HRP.out _ _ (Or.inr ⟨rfl, HBD.out, rfl⟩)⟩
  · skip
    have e1 : (((n : Nat) : Int) == 1) = false := by simp [h0]
    have e2 : (((n : Nat) : Int) == 2) = true := by simp [h0]
    have e3 : (((n : Nat) : Int) == 3) = false := by simp [h0]
    have e10 : (((n : Nat) : Int) == 10) = false := by simp [h0]
    have e5 : (((n : Nat) : Int) == 5) = false := by simp [h0]
    have HK2 := Lib.hid (show G2 R bs p1 d1 (bindP evP fun x => mkM { zM (n : Nat) with x := x }) from HK1.out.eq fun t => by unfold kindP; rw [show hl (n : Nat) = false from e1, show hev (n : Nat) = true from by unfold hev; rw [e2, e3]; rfl]; rfl)
    clear HK1
    go_wp2_with fail
    refine (refget6_any k cc A bs hlen hc hby p1 d1 w2 HD2.out.s).mono ?_
    rintro r w3 ⟨x, p2, f2, rfl, hS, hO, hP⟩
    have HLT := Lib.hid (show f2 = 0 → (∀ i, x.l.f i < 4294967296) ∧ x.l.n < 4294967296 from fun h => by
      obtain ⟨_, x', hx', hxx⟩ := hP.ok h
      obtain ⟨_, q2, q3, _⟩ := ev_ok (fun y hy => hby y (List.mem_of_mem_drop hy)) hx'
      subst hxx
      obtain ⟨_, _, _, hl, _, _, _, _, _, _, _, h8⟩ := lab_nats (rightE_parts q2).1
      exact ⟨q3, by omega⟩)
    have HK3 := Lib.hid (HK2.out.step hP)
    clear c0
    have HD3 := Lib.hid (HD2.out.read hO hS)
    clear hP hO hS HD2 HK2
    have hth := HD3.out.c0.thereT (o := 22) (n := (x.item).toArray.size) (by rw [List.size_toArray, List.size_toArray, pm_len, item_len]; omega)
    have HD4 := Lib.hid (show RdS W k g c A cc bs (w3.setCells c 22 (x.item)) p2 f2 { zM (n : Nat) with x := x } from HD3.out.put (off_cells c _ _ _ _ (Off.refl _ _)) (pm_setX HD3.out.c0 x))
    go_upto_region 19 with (refine wpList_store_mid rfl 41 _ _ rfl c 22 (x.item).toArray rfl rfl hth (einfoA6 _) (item_one _) ?_; show wpList _ _ _ _ _ (w3.setCells c 22 (x.item)))
    obtain ⟨w4, hw⟩ : ∃ w4, w4 = w3.setCells c 22 (x.item) := ⟨_, rfl⟩
    rw [← hw] at HD4 ⊢
    clear hw hth HD3
    have HFN := Lib.hid (show FinP R bs p2 f2 { zM (n : Nat) with x := x } from FinP.of HK3.out fun h => ⟨fun i => by show (0 : Nat) < _; decide, by show (0 : Nat) < _; decide, (HLT.out h).1, (HLT.out h).2⟩)
    obtain ⟨m, hm⟩ : ∃ m : Ms, m = { zM (n : Nat) with x := x } := ⟨_, rfl⟩
    rw [← hm] at HFN HD4
    clear hm
    go_wp2_with fail
    refine (refend_any k cc A bs p2 f2 w4 HD4.out.s).mono ?_
    rintro r w20 ⟨z, rfl, hb, hz⟩
    have HZ := Lib.hid hz
    have HD20 := Lib.hid (HD4.out.next hb)
    clear hb hz HD4
    have rgx := HD20.out.c0.range
    have bg := HD20.out.g0
    by_cases hz0 : z = 0
    · have f1 : (z != 0) = false := by simpa using hz0
      obtain ⟨he1, hdr⟩ := HZ.out.1 hz0
      have HRR := Lib.hid (fun w => rright23_any m (HFN.out.lt he1) w)
      rcases hrm : rightM m with _ | _
      · rw [hrm] at HRR
        have HBD := Lib.hid (HFN.out.bad hrm)
        clear hz0 he1 hdr hrm
        go_wp2_with (first | (refine wpList_load_midg (by rfl) 44 _ rfl _ _ rfl (Ms.plain ?_) _ ?_ Tryz.underlying44 rfl (rminfo _) ?_; rotate_left; (focus assumption)) | (refine wpList_build_lit (Ms.plain (zM 0)).toArray rfl 44 _ rfl built_rz0 ?_) | (go_at_call 11; refine (HRR.out _).mono ?_; rintro r w21 ⟨rfl, hb⟩; have HB21 := Lib.hid (HD20.out.b.trans (hb.mono HD20.out.b.size)); have bg2 := HD20.out.g0.next hb; clear hb rgx bg HRR) | (refine wpList_store_blk rfl 44 _ _ rfl g 44 zrmA (Ms.plain (zM 0)).toArray rfl rfl bg2 (rminfoA _) (zrm_siz _) (pm_one _) ?_; intro hrow))
        refine bodyPost_row2 (t := 44) (Ms.plain (zM 0)) (.bool false) rfl rfl rfl rfl Tryz.underlying44 rfl (rminfo _) hrow ?_
        exact ⟨_, false, rfl, below_setRow HB21.out (Nat.le_of_eq HKE.out.2.symm) _, HRP.out _ _ (Or.inr ⟨rfl, HBD.out, rfl⟩)⟩
      · rw [hrm] at HRR
        have HYS := Lib.hid (HFN.out.yes he1 hdr hrm)
        clear hz0 he1 hdr hrm
        go_wp2_with (first | (refine wpList_load_midg (by rfl) 44 _ rfl _ _ rfl (Ms.plain ?_) _ ?_ Tryz.underlying44 rfl (rminfo _) ?_; rotate_left; (focus assumption)) | (go_at_call 11; refine (HRR.out _).mono ?_; rintro r w21 ⟨rfl, hb⟩; have HB21 := Lib.hid (HD20.out.b.trans (hb.mono HD20.out.b.size)); have bg2 := HD20.out.g0.next hb; have rg2 := (HD20.out.c0.next hb).range; clear hb rgx bg HRR) | (refine wpList_store_blk rfl 44 _ _ rfl g 44 zrmA (Ms.plain m).toArray rfl rfl bg2 (rminfoA _) (zrm_siz _) (pm_one _) ?_; intro hrow))
        refine bodyPost_row2 (t := 44) (Ms.plain m) (.bool true) rfl rfl rfl rfl Tryz.underlying44 rfl (rminfo _) hrow ?_
        exact ⟨_, true, rfl, below_setRow HB21.out (Nat.le_of_eq HKE.out.2.symm) _, HRP.out _ _ (Or.inl ⟨rfl, m, HYS.out, rfl⟩)⟩
    · have f1 : (z != 0) = true := by simpa using hz0
      have HBD := Lib.hid (HFN.out.no z HZ.out hz0)
      clear hz0
      go_wp2_with (first | (refine wpList_build_lit (Ms.plain (zM 0)).toArray rfl 44 _ rfl built_rz0 ?_) | (refine wpList_store_blk rfl 44 _ _ rfl g 44 zrmA (Ms.plain (zM 0)).toArray rfl rfl bg (rminfoA _) (zrm_siz _) (pm_one _) ?_; intro hrow))
      refine bodyPost_row2 (t := 44) (Ms.plain (zM 0)) (.bool false) rfl rfl rfl rfl Tryz.underlying44 rfl (rminfo _) hrow ?_
      exact ⟨_, false, rfl, below_setRow HD20.out.b (Nat.le_of_eq HKE.out.2.symm) _, HRP.out _ _ (Or.inr ⟨rfl, HBD.out, rfl⟩)⟩
  · skip
    have e1 : (((n : Nat) : Int) == 1) = false := by simp [h0]
    have e2 : (((n : Nat) : Int) == 2) = false := by simp [h0]
    have e3 : (((n : Nat) : Int) == 3) = true := by simp [h0]
    have e10 : (((n : Nat) : Int) == 10) = false := by simp [h0]
    have e5 : (((n : Nat) : Int) == 5) = false := by simp [h0]
    have HK2 := Lib.hid (show G2 R bs p1 d1 (bindP evP fun x => mkM { zM (n : Nat) with x := x }) from HK1.out.eq fun t => by unfold kindP; rw [show hl (n : Nat) = false from e1, show hev (n : Nat) = true from by unfold hev; rw [e2, e3]; rfl]; rfl)
    clear HK1
    go_wp2_with fail
    refine (refget6_any k cc A bs hlen hc hby p1 d1 w2 HD2.out.s).mono ?_
    rintro r w3 ⟨x, p2, f2, rfl, hS, hO, hP⟩
    have HLT := Lib.hid (show f2 = 0 → (∀ i, x.l.f i < 4294967296) ∧ x.l.n < 4294967296 from fun h => by
      obtain ⟨_, x', hx', hxx⟩ := hP.ok h
      obtain ⟨_, q2, q3, _⟩ := ev_ok (fun y hy => hby y (List.mem_of_mem_drop hy)) hx'
      subst hxx
      obtain ⟨_, _, _, hl, _, _, _, _, _, _, _, h8⟩ := lab_nats (rightE_parts q2).1
      exact ⟨q3, by omega⟩)
    have HK3 := Lib.hid (HK2.out.step hP)
    clear c0
    have HD3 := Lib.hid (HD2.out.read hO hS)
    clear hP hO hS HD2 HK2
    have hth := HD3.out.c0.thereT (o := 22) (n := (x.item).toArray.size) (by rw [List.size_toArray, List.size_toArray, pm_len, item_len]; omega)
    have HD4 := Lib.hid (show RdS W k g c A cc bs (w3.setCells c 22 (x.item)) p2 f2 { zM (n : Nat) with x := x } from HD3.out.put (off_cells c _ _ _ _ (Off.refl _ _)) (pm_setX HD3.out.c0 x))
    go_upto_region 19 with (refine wpList_store_mid rfl 41 _ _ rfl c 22 (x.item).toArray rfl rfl hth (einfoA6 _) (item_one _) ?_; show wpList _ _ _ _ _ (w3.setCells c 22 (x.item)))
    obtain ⟨w4, hw⟩ : ∃ w4, w4 = w3.setCells c 22 (x.item) := ⟨_, rfl⟩
    rw [← hw] at HD4 ⊢
    clear hw hth HD3
    have HFN := Lib.hid (show FinP R bs p2 f2 { zM (n : Nat) with x := x } from FinP.of HK3.out fun h => ⟨fun i => by show (0 : Nat) < _; decide, by show (0 : Nat) < _; decide, (HLT.out h).1, (HLT.out h).2⟩)
    obtain ⟨m, hm⟩ : ∃ m : Ms, m = { zM (n : Nat) with x := x } := ⟨_, rfl⟩
    rw [← hm] at HFN HD4
    clear hm
    go_wp2_with fail
    refine (refend_any k cc A bs p2 f2 w4 HD4.out.s).mono ?_
    rintro r w20 ⟨z, rfl, hb, hz⟩
    have HZ := Lib.hid hz
    have HD20 := Lib.hid (HD4.out.next hb)
    clear hb hz HD4
    have rgx := HD20.out.c0.range
    have bg := HD20.out.g0
    by_cases hz0 : z = 0
    · have f1 : (z != 0) = false := by simpa using hz0
      obtain ⟨he1, hdr⟩ := HZ.out.1 hz0
      have HRR := Lib.hid (fun w => rright23_any m (HFN.out.lt he1) w)
      rcases hrm : rightM m with _ | _
      · rw [hrm] at HRR
        have HBD := Lib.hid (HFN.out.bad hrm)
        clear hz0 he1 hdr hrm
        go_wp2_with (first | (refine wpList_load_midg (by rfl) 44 _ rfl _ _ rfl (Ms.plain ?_) _ ?_ Tryz.underlying44 rfl (rminfo _) ?_; rotate_left; (focus assumption)) | (refine wpList_build_lit (Ms.plain (zM 0)).toArray rfl 44 _ rfl built_rz0 ?_) | (go_at_call 11; refine (HRR.out _).mono ?_; rintro r w21 ⟨rfl, hb⟩; have HB21 := Lib.hid (HD20.out.b.trans (hb.mono HD20.out.b.size)); have bg2 := HD20.out.g0.next hb; clear hb rgx bg HRR) | (refine wpList_store_blk rfl 44 _ _ rfl g 44 zrmA (Ms.plain (zM 0)).toArray rfl rfl bg2 (rminfoA _) (zrm_siz _) (pm_one _) ?_; intro hrow))
        refine bodyPost_row2 (t := 44) (Ms.plain (zM 0)) (.bool false) rfl rfl rfl rfl Tryz.underlying44 rfl (rminfo _) hrow ?_
        exact ⟨_, false, rfl, below_setRow HB21.out (Nat.le_of_eq HKE.out.2.symm) _, HRP.out _ _ (Or.inr ⟨rfl, HBD.out, rfl⟩)⟩
      · rw [hrm] at HRR
        have HYS := Lib.hid (HFN.out.yes he1 hdr hrm)
        clear hz0 he1 hdr hrm
        go_wp2_with (first | (refine wpList_load_midg (by rfl) 44 _ rfl _ _ rfl (Ms.plain ?_) _ ?_ Tryz.underlying44 rfl (rminfo _) ?_; rotate_left; (focus assumption)) | (go_at_call 11; refine (HRR.out _).mono ?_; rintro r w21 ⟨rfl, hb⟩; have HB21 := Lib.hid (HD20.out.b.trans (hb.mono HD20.out.b.size)); have bg2 := HD20.out.g0.next hb; have rg2 := (HD20.out.c0.next hb).range; clear hb rgx bg HRR) | (refine wpList_store_blk rfl 44 _ _ rfl g 44 zrmA (Ms.plain m).toArray rfl rfl bg2 (rminfoA _) (zrm_siz _) (pm_one _) ?_; intro hrow))
        refine bodyPost_row2 (t := 44) (Ms.plain m) (.bool true) rfl rfl rfl rfl Tryz.underlying44 rfl (rminfo _) hrow ?_
        exact ⟨_, true, rfl, below_setRow HB21.out (Nat.le_of_eq HKE.out.2.symm) _, HRP.out _ _ (Or.inl ⟨rfl, m, HYS.out, rfl⟩)⟩
    · have f1 : (z != 0) = true := by simpa using hz0
      have HBD := Lib.hid (HFN.out.no z HZ.out hz0)
      clear hz0
      go_wp2_with (first | (refine wpList_build_lit (Ms.plain (zM 0)).toArray rfl 44 _ rfl built_rz0 ?_) | (refine wpList_store_blk rfl 44 _ _ rfl g 44 zrmA (Ms.plain (zM 0)).toArray rfl rfl bg (rminfoA _) (zrm_siz _) (pm_one _) ?_; intro hrow))
      refine bodyPost_row2 (t := 44) (Ms.plain (zM 0)) (.bool false) rfl rfl rfl rfl Tryz.underlying44 rfl (rminfo _) hrow ?_
      exact ⟨_, false, rfl, below_setRow HD20.out.b (Nat.le_of_eq HKE.out.2.symm) _, HRP.out _ _ (Or.inr ⟨rfl, HBD.out, rfl⟩)⟩
  · skip
    have e1 : (((n : Nat) : Int) == 1) = false := by simp [h0]
    have e2 : (((n : Nat) : Int) == 2) = false := by simp [h0]
    have e3 : (((n : Nat) : Int) == 3) = false := by simp [h0]
    have e10 : (((n : Nat) : Int) == 10) = true := by simp [h0]
    have e5 : (((n : Nat) : Int) == 5) = false := by simp [h0]
    have HK2 := Lib.hid (show G2 R bs p1 d1 (bindP (smallP 12) fun ca => bindP (smallP 21) fun ro => bindP stP fun s => mkM { zM (n : Nat) with ca := (ca : Nat), ro := (ro : Nat), s := s }) from HK1.out.eq fun t => by unfold kindP; rw [show hl (n : Nat) = false from e1, show hev (n : Nat) = false from by unfold hev; rw [e2, e3]; rfl, show hse (n : Nat) = false from by unfold hse withinB; simp [h0], show hst (n : Nat) = true from e10]; rfl)
    clear HK1
    go_wp2_with fail
    refine (refsmall_any k cc A bs hlen hby 12 (by decide) p1 d1 w2 HD2.out.s).mono ?_
    rintro r w3 ⟨ca, p2, f2, rfl, hS, hO, _, hP⟩
    have HK3 := Lib.hid (HK2.out.step hP)
    have HD3 := Lib.hid (HD2.out.read hO hS)
    clear c0
    clear hP hO hS HD2 HK2
    have hkA : w3.cell? ⟨c, 3, none⟩ = some (.int .i64 0) := (pm_all HD3.out.c0).2.2.2.2.2.2.2.1
    have hfA := HD3.out.c0.frozen 3
    have HD4 := Lib.hid (show RdS W k g c A cc bs (w3.setCell ⟨c, 3, none⟩ (.int .i64 (ca : Nat))) p2 f2 { zM (n : Nat) with ca := (ca : Nat) } from HD3.out.put ((Off.refl _ _).set _ _) (pm_setH HD3.out.c0 (by omega) rfl rfl rfl rfl))
    go_upto_region 14 with fail
    obtain ⟨w4, hw⟩ : ∃ w4, w4 = w3.setCell ⟨c, 3, none⟩ (.int .i64 (ca : Nat)) := ⟨_, rfl⟩
    rw [← hw] at HD4 ⊢
    clear hw hkA hfA HD3
    go_wp2_with fail
    refine (refsmall_any k cc A bs hlen hby 21 (by decide) p2 f2 w4 HD4.out.s).mono ?_
    rintro r w5 ⟨ro, p3, f3, rfl, hS, hO, _, hP⟩
    have HK4 := Lib.hid (HK3.out.step hP)
    have HD5 := Lib.hid (HD4.out.read hO hS)
    clear hP hO hS HD4 HK3
    have hkA : w5.cell? ⟨c, 4, none⟩ = some (.int .i64 0) := (pm_all HD5.out.c0).2.2.2.2.2.2.2.2
    have hfA := HD5.out.c0.frozen 4
    have HD6 := Lib.hid (show RdS W k g c A cc bs (w5.setCell ⟨c, 4, none⟩ (.int .i64 (ro : Nat))) p3 f3 { zM (n : Nat) with ca := (ca : Nat), ro := (ro : Nat) } from HD5.out.put ((Off.refl _ _).set _ _) (pm_setH HD5.out.c0 (by omega) rfl rfl rfl rfl))
    go_upto_region 15 with fail
    obtain ⟨w6, hw⟩ : ∃ w6, w6 = w5.setCell ⟨c, 4, none⟩ (.int .i64 (ro : Nat)) := ⟨_, rfl⟩
    rw [← hw] at HD6 ⊢
    clear hw hkA hfA HD5
    have HK5 := Lib.hid (show G2 R bs p3 f3 (bindP (smallP 1) fun h => bindP (if h = 0 then pureP St.zero else bindP (numP true 0) fun t => bindP vectorP fun l => pureP ⟨true, t, lv l⟩) fun s => mkM { zM (n : Nat) with ca := (ca : Nat), ro := (ro : Nat), s := s }) from HK4.out.eq fun t => by rw [stP_def]; exact bindP_assoc _ _ _ _)
    clear HK4
    go_wp2_with fail
    refine (refsmall_any k cc A bs hlen hby 1 (by decide) p3 f3 w6 HD6.out.s).mono ?_
    rintro r w7 ⟨q, p4, f4, rfl, hS, hO, hq1, hP⟩
    have HK6 := Lib.hid (HK5.out.step hP)
    have HD7 := Lib.hid (HD6.out.read hO hS)
    have HQ1 := Lib.hid hq1
    clear hq1
    clear hP hO hS HD6 HK5
    rcases (show q = 0 ∨ q = 1 from by have := HQ1.out; omega) with hq | hq
    · skip
      have HK7 := Lib.hid (show G2 R bs p4 f4 (mkM { zM (n : Nat) with ca := (ca : Nat), ro := (ro : Nat), s := St.zero }) from HK6.out.eq fun t => by subst hq; rfl)
      clear HK6
      have g1 : (((q : Nat) : Int) == 1) = false := by simp [hq]
      have hkA : w7.cell? ⟨c, 43, none⟩ = some (.bool false) := (pm_all HD7.out.c0).2.2.2.1 0 _ (st_0 _)
      have hfA := HD7.out.c0.frozen 43
      have HD8 := Lib.hid (show RdS W k g c A cc bs (w7.setCell ⟨c, 43, none⟩ (.bool false)) p4 f4 { zM (n : Nat) with ca := (ca : Nat), ro := (ro : Nat), s := St.zero } from HD7.out.put ((Off.refl _ _).set _ _) (pm_setSi (i := 0) HD7.out.c0 (st_setH St.zero false)))
      go_upto_region 16 with fail
      obtain ⟨w8, hw⟩ : ∃ w8, w8 = w7.setCell ⟨c, 43, none⟩ (.bool false) := ⟨_, rfl⟩
      rw [← hw] at HD8 ⊢
      clear hw hkA hfA HD7 g1 hq
      have c43 : w8.cell? ⟨c, 43, none⟩ = some (.bool false) := (pm_all HD8.out.c0).2.2.2.1 0 _ (st_0 _)
      have HFN := Lib.hid (show FinP R bs p4 f4 { zM (n : Nat) with ca := (ca : Nat), ro := (ro : Nat), s := St.zero } from FinP.of HK7.out fun _ => lt_plain rfl rfl)
      obtain ⟨m, hm⟩ : ∃ m : Ms, m = { zM (n : Nat) with ca := (ca : Nat), ro := (ro : Nat), s := St.zero } := ⟨_, rfl⟩
      rw [← hm] at HFN HD8
      clear hm
      go_wp2_with fail
      refine (refend_any k cc A bs p4 f4 w8 HD8.out.s).mono ?_
      rintro r w20 ⟨z, rfl, hb, hz⟩
      have HZ := Lib.hid hz
      have HD20 := Lib.hid (HD8.out.next hb)
      clear hb hz HD8
      have rgx := HD20.out.c0.range
      have bg := HD20.out.g0
      by_cases hz0 : z = 0
      · have f1 : (z != 0) = false := by simpa using hz0
        obtain ⟨he1, hdr⟩ := HZ.out.1 hz0
        have HRR := Lib.hid (fun w => rright23_any m (HFN.out.lt he1) w)
        rcases hrm : rightM m with _ | _
        · rw [hrm] at HRR
          have HBD := Lib.hid (HFN.out.bad hrm)
          clear hz0 he1 hdr hrm
          go_wp2_with (first | (refine wpList_load_midg (by rfl) 44 _ rfl _ _ rfl (Ms.plain ?_) _ ?_ Tryz.underlying44 rfl (rminfo _) ?_; rotate_left; (focus assumption)) | (refine wpList_build_lit (Ms.plain (zM 0)).toArray rfl 44 _ rfl built_rz0 ?_) | (go_at_call 11; refine (HRR.out _).mono ?_; rintro r w21 ⟨rfl, hb⟩; have HB21 := Lib.hid (HD20.out.b.trans (hb.mono HD20.out.b.size)); have bg2 := HD20.out.g0.next hb; clear hb rgx bg HRR) | (refine wpList_store_blk rfl 44 _ _ rfl g 44 zrmA (Ms.plain (zM 0)).toArray rfl rfl bg2 (rminfoA _) (zrm_siz _) (pm_one _) ?_; intro hrow))
          refine bodyPost_row2 (t := 44) (Ms.plain (zM 0)) (.bool false) rfl rfl rfl rfl Tryz.underlying44 rfl (rminfo _) hrow ?_
          exact ⟨_, false, rfl, below_setRow HB21.out (Nat.le_of_eq HKE.out.2.symm) _, HRP.out _ _ (Or.inr ⟨rfl, HBD.out, rfl⟩)⟩
        · rw [hrm] at HRR
          have HYS := Lib.hid (HFN.out.yes he1 hdr hrm)
          clear hz0 he1 hdr hrm
          go_wp2_with (first | (refine wpList_load_midg (by rfl) 44 _ rfl _ _ rfl (Ms.plain ?_) _ ?_ Tryz.underlying44 rfl (rminfo _) ?_; rotate_left; (focus assumption)) | (go_at_call 11; refine (HRR.out _).mono ?_; rintro r w21 ⟨rfl, hb⟩; have HB21 := Lib.hid (HD20.out.b.trans (hb.mono HD20.out.b.size)); have bg2 := HD20.out.g0.next hb; have rg2 := (HD20.out.c0.next hb).range; clear hb rgx bg HRR) | (refine wpList_store_blk rfl 44 _ _ rfl g 44 zrmA (Ms.plain m).toArray rfl rfl bg2 (rminfoA _) (zrm_siz _) (pm_one _) ?_; intro hrow))
          refine bodyPost_row2 (t := 44) (Ms.plain m) (.bool true) rfl rfl rfl rfl Tryz.underlying44 rfl (rminfo _) hrow ?_
          exact ⟨_, true, rfl, below_setRow HB21.out (Nat.le_of_eq HKE.out.2.symm) _, HRP.out _ _ (Or.inl ⟨rfl, m, HYS.out, rfl⟩)⟩
      · have f1 : (z != 0) = true := by simpa using hz0
        have HBD := Lib.hid (HFN.out.no z HZ.out hz0)
        clear hz0
        go_wp2_with (first | (refine wpList_build_lit (Ms.plain (zM 0)).toArray rfl 44 _ rfl built_rz0 ?_) | (refine wpList_store_blk rfl 44 _ _ rfl g 44 zrmA (Ms.plain (zM 0)).toArray rfl rfl bg (rminfoA _) (zrm_siz _) (pm_one _) ?_; intro hrow))
        refine bodyPost_row2 (t := 44) (Ms.plain (zM 0)) (.bool false) rfl rfl rfl rfl Tryz.underlying44 rfl (rminfo _) hrow ?_
        exact ⟨_, false, rfl, below_setRow HD20.out.b (Nat.le_of_eq HKE.out.2.symm) _, HRP.out _ _ (Or.inr ⟨rfl, HBD.out, rfl⟩)⟩
    · skip
      have HK7 := Lib.hid (show G2 R bs p4 f4 (bindP (numP true 0) fun t => bindP (bindP vectorP fun l => pureP (⟨true, t, lv l⟩ : St)) fun s => mkM { zM (n : Nat) with ca := (ca : Nat), ro := (ro : Nat), s := s }) from HK6.out.eq fun t => by subst hq; exact bindP_assoc _ _ _ _)
      clear HK6
      have g1 : (((q : Nat) : Int) == 1) = true := by simp [hq]
      have hkA : w7.cell? ⟨c, 43, none⟩ = some (.bool false) := (pm_all HD7.out.c0).2.2.2.1 0 _ (st_0 _)
      have hfA := HD7.out.c0.frozen 43
      have HD8 := Lib.hid (show RdS W k g c A cc bs (w7.setCell ⟨c, 43, none⟩ (.bool true)) p4 f4 { zM (n : Nat) with ca := (ca : Nat), ro := (ro : Nat), s := { St.zero with h := true } } from HD7.out.put ((Off.refl _ _).set _ _) (pm_setSi (i := 0) HD7.out.c0 (st_setH St.zero true)))
      go_upto_region 16 with fail
      obtain ⟨w8, hw⟩ : ∃ w8, w8 = w7.setCell ⟨c, 43, none⟩ (.bool true) := ⟨_, rfl⟩
      rw [← hw] at HD8 ⊢
      clear hw hkA hfA HD7 g1 hq
      have c43 : w8.cell? ⟨c, 43, none⟩ = some (.bool true) := (pm_all HD8.out.c0).2.2.2.1 0 _ (st_0 _)
      go_wp2_with fail
      refine (refnumA k cc A bs hlen hby p4 f4 w8 HD8.out.s).mono ?_
      rintro r w9 ⟨t, p5, f5, rfl, hS, hO, hP⟩
      have HK8 := Lib.hid (HK7.out.step hP)
      have HD9 := Lib.hid (HD8.out.read hO hS)
      clear c43
      clear hP hO hS HD8 HK7
      have HK9 := Lib.hid (show G2 R bs p5 f5 (bindP vectorP fun l => mkM { zM (n : Nat) with ca := (ca : Nat), ro := (ro : Nat), s := ⟨true, t, lv l⟩ }) from HK8.out.eq fun u => bindP_assoc _ _ _ _)
      clear HK8
      have hkA : w9.cell? ⟨c, 44, none⟩ = some (.int .u64 0) := (pm_all HD9.out.c0).2.2.2.1 1 _ (st_1 _)
      have hfA := HD9.out.c0.frozen 44
      have HD10 := Lib.hid (show RdS W k g c A cc bs (w9.setCell ⟨c, 44, none⟩ (.int .u64 (t : Nat))) p5 f5 { zM (n : Nat) with ca := (ca : Nat), ro := (ro : Nat), s := { St.zero with h := true, t := t } } from HD9.out.put ((Off.refl _ _).set _ _) (pm_setSi (i := 1) HD9.out.c0 (st_setT { St.zero with h := true } t)))
      go_upto_region 18 with fail
      obtain ⟨w10, hw⟩ : ∃ w10, w10 = w9.setCell ⟨c, 44, none⟩ (.int .u64 (t : Nat)) := ⟨_, rfl⟩
      rw [← hw] at HD10 ⊢
      clear hw hkA hfA HD9
      go_wp2_with fail
      refine (refvector_any k cc A bs hlen hby p5 f5 w10 HD10.out.s).mono ?_
      rintro r w11 ⟨l, p6, f6, rfl, hS, hO, _, hP⟩
      have HK10 := Lib.hid (HK9.out.step hP)
      have HD11 := Lib.hid (HD10.out.read hO hS)
      clear hP hO hS HD10 HK9
      have hth := HD11.out.c0.thereT (o := 45) (n := (vl (lv l)).toArray.size) (by rw [List.size_toArray, List.size_toArray, pm_len, vl_len]; omega)
      have HD12 := Lib.hid (show RdS W k g c A cc bs (w11.setCells c 45 (vl (lv l))) p6 f6 { zM (n : Nat) with ca := (ca : Nat), ro := (ro : Nat), s := ⟨true, t, lv l⟩ } from HD11.out.put (off_cells c _ _ _ _ (Off.refl _ _)) (pm_setV HD11.out.c0 (lv l)))
      go_upto_region 19 with (refine wpList_store_mid rfl 25 _ _ rfl c 45 (vl (lv l)).toArray rfl rfl hth (vinfo _) (vl_all _) ?_; show wpList _ _ _ _ _ (w11.setCells c 45 (vl (lv l))))
      obtain ⟨w12, hw⟩ : ∃ w12, w12 = w11.setCells c 45 (vl (lv l)) := ⟨_, rfl⟩
      rw [← hw] at HD12 ⊢
      clear hw hth HD11
      have HFN := Lib.hid (show FinP R bs p6 f6 { zM (n : Nat) with ca := (ca : Nat), ro := (ro : Nat), s := ⟨true, t, lv l⟩ } from FinP.of HK10.out fun _ => lt_plain rfl rfl)
      obtain ⟨m, hm⟩ : ∃ m : Ms, m = { zM (n : Nat) with ca := (ca : Nat), ro := (ro : Nat), s := ⟨true, t, lv l⟩ } := ⟨_, rfl⟩
      rw [← hm] at HFN HD12
      clear hm
      go_wp2_with fail
      refine (refend_any k cc A bs p6 f6 w12 HD12.out.s).mono ?_
      rintro r w20 ⟨z, rfl, hb, hz⟩
      have HZ := Lib.hid hz
      have HD20 := Lib.hid (HD12.out.next hb)
      clear hb hz HD12
      have rgx := HD20.out.c0.range
      have bg := HD20.out.g0
      by_cases hz0 : z = 0
      · have f1 : (z != 0) = false := by simpa using hz0
        obtain ⟨he1, hdr⟩ := HZ.out.1 hz0
        have HRR := Lib.hid (fun w => rright23_any m (HFN.out.lt he1) w)
        rcases hrm : rightM m with _ | _
        · rw [hrm] at HRR
          have HBD := Lib.hid (HFN.out.bad hrm)
          clear hz0 he1 hdr hrm
          go_wp2_with (first | (refine wpList_load_midg (by rfl) 44 _ rfl _ _ rfl (Ms.plain ?_) _ ?_ Tryz.underlying44 rfl (rminfo _) ?_; rotate_left; (focus assumption)) | (refine wpList_build_lit (Ms.plain (zM 0)).toArray rfl 44 _ rfl built_rz0 ?_) | (go_at_call 11; refine (HRR.out _).mono ?_; rintro r w21 ⟨rfl, hb⟩; have HB21 := Lib.hid (HD20.out.b.trans (hb.mono HD20.out.b.size)); have bg2 := HD20.out.g0.next hb; clear hb rgx bg HRR) | (refine wpList_store_blk rfl 44 _ _ rfl g 44 zrmA (Ms.plain (zM 0)).toArray rfl rfl bg2 (rminfoA _) (zrm_siz _) (pm_one _) ?_; intro hrow))
          refine bodyPost_row2 (t := 44) (Ms.plain (zM 0)) (.bool false) rfl rfl rfl rfl Tryz.underlying44 rfl (rminfo _) hrow ?_
          exact ⟨_, false, rfl, below_setRow HB21.out (Nat.le_of_eq HKE.out.2.symm) _, HRP.out _ _ (Or.inr ⟨rfl, HBD.out, rfl⟩)⟩
        · rw [hrm] at HRR
          have HYS := Lib.hid (HFN.out.yes he1 hdr hrm)
          clear hz0 he1 hdr hrm
          go_wp2_with (first | (refine wpList_load_midg (by rfl) 44 _ rfl _ _ rfl (Ms.plain ?_) _ ?_ Tryz.underlying44 rfl (rminfo _) ?_; rotate_left; (focus assumption)) | (go_at_call 11; refine (HRR.out _).mono ?_; rintro r w21 ⟨rfl, hb⟩; have HB21 := Lib.hid (HD20.out.b.trans (hb.mono HD20.out.b.size)); have bg2 := HD20.out.g0.next hb; have rg2 := (HD20.out.c0.next hb).range; clear hb rgx bg HRR) | (refine wpList_store_blk rfl 44 _ _ rfl g 44 zrmA (Ms.plain m).toArray rfl rfl bg2 (rminfoA _) (zrm_siz _) (pm_one _) ?_; intro hrow))
          refine bodyPost_row2 (t := 44) (Ms.plain m) (.bool true) rfl rfl rfl rfl Tryz.underlying44 rfl (rminfo _) hrow ?_
          exact ⟨_, true, rfl, below_setRow HB21.out (Nat.le_of_eq HKE.out.2.symm) _, HRP.out _ _ (Or.inl ⟨rfl, m, HYS.out, rfl⟩)⟩
      · have f1 : (z != 0) = true := by simpa using hz0
        have HBD := Lib.hid (HFN.out.no z HZ.out hz0)
        clear hz0
        go_wp2_with (first | (refine wpList_build_lit (Ms.plain (zM 0)).toArray rfl 44 _ rfl built_rz0 ?_) | (refine wpList_store_blk rfl 44 _ _ rfl g 44 zrmA (Ms.plain (zM 0)).toArray rfl rfl bg (rminfoA _) (zrm_siz _) (pm_one _) ?_; intro hrow))
        refine bodyPost_row2 (t := 44) (Ms.plain (zM 0)) (.bool false) rfl rfl rfl rfl Tryz.underlying44 rfl (rminfo _) hrow ?_
        exact ⟨_, false, rfl, below_setRow HD20.out.b (Nat.le_of_eq HKE.out.2.symm) _, HRP.out _ _ (Or.inr ⟨rfl, HBD.out, rfl⟩)⟩
  · skip
    have e1 : (((n : Nat) : Int) == 1) = false := by simp [h0]
    have e2 : (((n : Nat) : Int) == 2) = false := by simp [h0]
    have e3 : (((n : Nat) : Int) == 3) = false := by simp [h0]
    have e10 : (((n : Nat) : Int) == 10) = false := by simp [h0]
    have e5 : (((n : Nat) : Int) == 5) = true := by simp [h0]
    have HK2 := Lib.hid (show G2 R bs p1 d1 (bindP (smallP 12) fun se => bindP (smallP 200) fun co => mkM { zM (n : Nat) with se := (se : Nat), co := (co : Nat) }) from HK1.out.eq fun t => by unfold kindP; rw [show hl (n : Nat) = false from e1, show hev (n : Nat) = false from by unfold hev; rw [e2, e3]; rfl, show hse (n : Nat) = true from by unfold hse withinB; simp [h0], show hco (n : Nat) = true from e5]; rfl)
    clear HK1
    go_wp2_with fail
    refine (refsmall_any k cc A bs hlen hby 12 (by decide) p1 d1 w2 HD2.out.s).mono ?_
    rintro r w3 ⟨se, p2, f2, rfl, hS, hO, _, hP⟩
    have HK3 := Lib.hid (HK2.out.step hP)
    have HD3 := Lib.hid (HD2.out.read hO hS)
    clear c0
    clear hP hO hS HD2 HK2
    have hkA : w3.cell? ⟨c, 1, none⟩ = some (.int .i64 0) := (pm_all HD3.out.c0).2.2.2.2.2.1
    have hfA := HD3.out.c0.frozen 1
    have HD4 := Lib.hid (show RdS W k g c A cc bs (w3.setCell ⟨c, 1, none⟩ (.int .i64 (se : Nat))) p2 f2 { zM (n : Nat) with se := (se : Nat) } from HD3.out.put ((Off.refl _ _).set _ _) (pm_setH HD3.out.c0 (by omega) rfl rfl rfl rfl))
    go_upto_region 5 with fail
    obtain ⟨w4, hw⟩ : ∃ w4, w4 = w3.setCell ⟨c, 1, none⟩ (.int .i64 (se : Nat)) := ⟨_, rfl⟩
    rw [← hw] at HD4 ⊢
    clear hw hkA hfA HD3
    have c0 : World.cell? w4 ⟨c, 0, none⟩ = some (.int .i64 ((n : Nat) : Int)) := (pm_all HD4.out.c0).2.2.2.2.1
    go_wp2_with fail
    refine (refsmall_any k cc A bs hlen hby 200 (by decide) p2 f2 w4 HD4.out.s).mono ?_
    rintro r w5 ⟨co, p3, f3, rfl, hS, hO, _, hP⟩
    have HK4 := Lib.hid (HK3.out.step hP)
    have HD5 := Lib.hid (HD4.out.read hO hS)
    clear c0
    clear hP hO hS HD4 HK3
    have hkA : w5.cell? ⟨c, 2, none⟩ = some (.int .i64 0) := (pm_all HD5.out.c0).2.2.2.2.2.2.1
    have hfA := HD5.out.c0.frozen 2
    have HD6 := Lib.hid (show RdS W k g c A cc bs (w5.setCell ⟨c, 2, none⟩ (.int .i64 (co : Nat))) p3 f3 { zM (n : Nat) with se := (se : Nat), co := (co : Nat) } from HD5.out.put ((Off.refl _ _).set _ _) (pm_setH HD5.out.c0 (by omega) rfl rfl rfl rfl))
    go_upto_region 19 with fail
    obtain ⟨w6, hw⟩ : ∃ w6, w6 = w5.setCell ⟨c, 2, none⟩ (.int .i64 (co : Nat)) := ⟨_, rfl⟩
    rw [← hw] at HD6 ⊢
    clear hw hkA hfA HD5
    have HFN := Lib.hid (show FinP R bs p3 f3 { zM (n : Nat) with se := (se : Nat), co := (co : Nat) } from FinP.of HK4.out fun _ => lt_plain rfl rfl)
    obtain ⟨m, hm⟩ : ∃ m : Ms, m = { zM (n : Nat) with se := (se : Nat), co := (co : Nat) } := ⟨_, rfl⟩
    rw [← hm] at HFN HD6
    clear hm
    go_wp2_with fail
    refine (refend_any k cc A bs p3 f3 w6 HD6.out.s).mono ?_
    rintro r w20 ⟨z, rfl, hb, hz⟩
    have HZ := Lib.hid hz
    have HD20 := Lib.hid (HD6.out.next hb)
    clear hb hz HD6
    have rgx := HD20.out.c0.range
    have bg := HD20.out.g0
    by_cases hz0 : z = 0
    · have f1 : (z != 0) = false := by simpa using hz0
      obtain ⟨he1, hdr⟩ := HZ.out.1 hz0
      have HRR := Lib.hid (fun w => rright23_any m (HFN.out.lt he1) w)
      rcases hrm : rightM m with _ | _
      · rw [hrm] at HRR
        have HBD := Lib.hid (HFN.out.bad hrm)
        clear hz0 he1 hdr hrm
        go_wp2_with (first | (refine wpList_load_midg (by rfl) 44 _ rfl _ _ rfl (Ms.plain ?_) _ ?_ Tryz.underlying44 rfl (rminfo _) ?_; rotate_left; (focus assumption)) | (refine wpList_build_lit (Ms.plain (zM 0)).toArray rfl 44 _ rfl built_rz0 ?_) | (go_at_call 11; refine (HRR.out _).mono ?_; rintro r w21 ⟨rfl, hb⟩; have HB21 := Lib.hid (HD20.out.b.trans (hb.mono HD20.out.b.size)); have bg2 := HD20.out.g0.next hb; clear hb rgx bg HRR) | (refine wpList_store_blk rfl 44 _ _ rfl g 44 zrmA (Ms.plain (zM 0)).toArray rfl rfl bg2 (rminfoA _) (zrm_siz _) (pm_one _) ?_; intro hrow))
        refine bodyPost_row2 (t := 44) (Ms.plain (zM 0)) (.bool false) rfl rfl rfl rfl Tryz.underlying44 rfl (rminfo _) hrow ?_
        exact ⟨_, false, rfl, below_setRow HB21.out (Nat.le_of_eq HKE.out.2.symm) _, HRP.out _ _ (Or.inr ⟨rfl, HBD.out, rfl⟩)⟩
      · rw [hrm] at HRR
        have HYS := Lib.hid (HFN.out.yes he1 hdr hrm)
        clear hz0 he1 hdr hrm
        go_wp2_with (first | (refine wpList_load_midg (by rfl) 44 _ rfl _ _ rfl (Ms.plain ?_) _ ?_ Tryz.underlying44 rfl (rminfo _) ?_; rotate_left; (focus assumption)) | (go_at_call 11; refine (HRR.out _).mono ?_; rintro r w21 ⟨rfl, hb⟩; have HB21 := Lib.hid (HD20.out.b.trans (hb.mono HD20.out.b.size)); have bg2 := HD20.out.g0.next hb; have rg2 := (HD20.out.c0.next hb).range; clear hb rgx bg HRR) | (refine wpList_store_blk rfl 44 _ _ rfl g 44 zrmA (Ms.plain m).toArray rfl rfl bg2 (rminfoA _) (zrm_siz _) (pm_one _) ?_; intro hrow))
        refine bodyPost_row2 (t := 44) (Ms.plain m) (.bool true) rfl rfl rfl rfl Tryz.underlying44 rfl (rminfo _) hrow ?_
        exact ⟨_, true, rfl, below_setRow HB21.out (Nat.le_of_eq HKE.out.2.symm) _, HRP.out _ _ (Or.inl ⟨rfl, m, HYS.out, rfl⟩)⟩
    · have f1 : (z != 0) = true := by simpa using hz0
      have HBD := Lib.hid (HFN.out.no z HZ.out hz0)
      clear hz0
      go_wp2_with (first | (refine wpList_build_lit (Ms.plain (zM 0)).toArray rfl 44 _ rfl built_rz0 ?_) | (refine wpList_store_blk rfl 44 _ _ rfl g 44 zrmA (Ms.plain (zM 0)).toArray rfl rfl bg (rminfoA _) (zrm_siz _) (pm_one _) ?_; intro hrow))
      refine bodyPost_row2 (t := 44) (Ms.plain (zM 0)) (.bool false) rfl rfl rfl rfl Tryz.underlying44 rfl (rminfo _) hrow ?_
      exact ⟨_, false, rfl, below_setRow HD20.out.b (Nat.le_of_eq HKE.out.2.symm) _, HRP.out _ _ (Or.inr ⟨rfl, HBD.out, rfl⟩)⟩
  · skip
    have e1 : (((n : Nat) : Int) == 1) = false := by simp; omega
    have e2 : (((n : Nat) : Int) == 2) = false := by simp; omega
    have e3 : (((n : Nat) : Int) == 3) = false := by simp; omega
    have e10 : (((n : Nat) : Int) == 10) = false := by simp; omega
    have e5 : (((n : Nat) : Int) == 5) = false := by simp; omega
    have HK2 := Lib.hid (show G2 R bs p1 d1 (bindP (smallP 12) fun se => mkM { zM (n : Nat) with se := (se : Nat) }) from HK1.out.eq fun t => by unfold kindP; rw [show hl (n : Nat) = false from e1, show hev (n : Nat) = false from by unfold hev; rw [e2, e3]; rfl, show hse (n : Nat) = true from by unfold hse withinB; simp; omega, show hco (n : Nat) = false from e5]; rfl)
    clear HK1
    go_wp2_with fail
    refine (refsmall_any k cc A bs hlen hby 12 (by decide) p1 d1 w2 HD2.out.s).mono ?_
    rintro r w3 ⟨se, p2, f2, rfl, hS, hO, _, hP⟩
    have HK3 := Lib.hid (HK2.out.step hP)
    have HD3 := Lib.hid (HD2.out.read hO hS)
    clear c0
    clear hP hO hS HD2 HK2
    have hkA : w3.cell? ⟨c, 1, none⟩ = some (.int .i64 0) := (pm_all HD3.out.c0).2.2.2.2.2.1
    have hfA := HD3.out.c0.frozen 1
    have HD4 := Lib.hid (show RdS W k g c A cc bs (w3.setCell ⟨c, 1, none⟩ (.int .i64 (se : Nat))) p2 f2 { zM (n : Nat) with se := (se : Nat) } from HD3.out.put ((Off.refl _ _).set _ _) (pm_setH HD3.out.c0 (by omega) rfl rfl rfl rfl))
    go_upto_region 5 with fail
    obtain ⟨w4, hw⟩ : ∃ w4, w4 = w3.setCell ⟨c, 1, none⟩ (.int .i64 (se : Nat)) := ⟨_, rfl⟩
    rw [← hw] at HD4 ⊢
    clear hw hkA hfA HD3
    have c0 : World.cell? w4 ⟨c, 0, none⟩ = some (.int .i64 ((n : Nat) : Int)) := (pm_all HD4.out.c0).2.2.2.2.1
    clear h0
    have HFN := Lib.hid (show FinP R bs p2 f2 { zM (n : Nat) with se := (se : Nat) } from FinP.of HK3.out fun _ => lt_plain rfl rfl)
    obtain ⟨m, hm⟩ : ∃ m : Ms, m = { zM (n : Nat) with se := (se : Nat) } := ⟨_, rfl⟩
    rw [← hm] at HFN HD4
    clear hm
    go_wp2_with fail
    refine (refend_any k cc A bs p2 f2 w4 HD4.out.s).mono ?_
    rintro r w20 ⟨z, rfl, hb, hz⟩
    have HZ := Lib.hid hz
    have HD20 := Lib.hid (HD4.out.next hb)
    clear hb hz HD4
    have rgx := HD20.out.c0.range
    have bg := HD20.out.g0
    by_cases hz0 : z = 0
    · have f1 : (z != 0) = false := by simpa using hz0
      obtain ⟨he1, hdr⟩ := HZ.out.1 hz0
      have HRR := Lib.hid (fun w => rright23_any m (HFN.out.lt he1) w)
      rcases hrm : rightM m with _ | _
      · rw [hrm] at HRR
        have HBD := Lib.hid (HFN.out.bad hrm)
        clear hz0 he1 hdr hrm
        go_wp2_with (first | (refine wpList_load_midg (by rfl) 44 _ rfl _ _ rfl (Ms.plain ?_) _ ?_ Tryz.underlying44 rfl (rminfo _) ?_; rotate_left; (focus assumption)) | (refine wpList_build_lit (Ms.plain (zM 0)).toArray rfl 44 _ rfl built_rz0 ?_) | (go_at_call 11; refine (HRR.out _).mono ?_; rintro r w21 ⟨rfl, hb⟩; have HB21 := Lib.hid (HD20.out.b.trans (hb.mono HD20.out.b.size)); have bg2 := HD20.out.g0.next hb; clear hb rgx bg HRR) | (refine wpList_store_blk rfl 44 _ _ rfl g 44 zrmA (Ms.plain (zM 0)).toArray rfl rfl bg2 (rminfoA _) (zrm_siz _) (pm_one _) ?_; intro hrow))
        refine bodyPost_row2 (t := 44) (Ms.plain (zM 0)) (.bool false) rfl rfl rfl rfl Tryz.underlying44 rfl (rminfo _) hrow ?_
        exact ⟨_, false, rfl, below_setRow HB21.out (Nat.le_of_eq HKE.out.2.symm) _, HRP.out _ _ (Or.inr ⟨rfl, HBD.out, rfl⟩)⟩
      · rw [hrm] at HRR
        have HYS := Lib.hid (HFN.out.yes he1 hdr hrm)
        clear hz0 he1 hdr hrm
        go_wp2_with (first | (refine wpList_load_midg (by rfl) 44 _ rfl _ _ rfl (Ms.plain ?_) _ ?_ Tryz.underlying44 rfl (rminfo _) ?_; rotate_left; (focus assumption)) | (go_at_call 11; refine (HRR.out _).mono ?_; rintro r w21 ⟨rfl, hb⟩; have HB21 := Lib.hid (HD20.out.b.trans (hb.mono HD20.out.b.size)); have bg2 := HD20.out.g0.next hb; have rg2 := (HD20.out.c0.next hb).range; clear hb rgx bg HRR) | (refine wpList_store_blk rfl 44 _ _ rfl g 44 zrmA (Ms.plain m).toArray rfl rfl bg2 (rminfoA _) (zrm_siz _) (pm_one _) ?_; intro hrow))
        refine bodyPost_row2 (t := 44) (Ms.plain m) (.bool true) rfl rfl rfl rfl Tryz.underlying44 rfl (rminfo _) hrow ?_
        exact ⟨_, true, rfl, below_setRow HB21.out (Nat.le_of_eq HKE.out.2.symm) _, HRP.out _ _ (Or.inl ⟨rfl, m, HYS.out, rfl⟩)⟩
    · have f1 : (z != 0) = true := by simpa using hz0
      have HBD := Lib.hid (HFN.out.no z HZ.out hz0)
      clear hz0
      go_wp2_with (first | (refine wpList_build_lit (Ms.plain (zM 0)).toArray rfl 44 _ rfl built_rz0 ?_) | (refine wpList_store_blk rfl 44 _ _ rfl g 44 zrmA (Ms.plain (zM 0)).toArray rfl rfl bg (rminfoA _) (zrm_siz _) (pm_one _) ?_; intro hrow))
      refine bodyPost_row2 (t := 44) (Ms.plain (zM 0)) (.bool false) rfl rfl rfl rfl Tryz.underlying44 rfl (rminfo _) hrow ?_
      exact ⟨_, false, rfl, below_setRow HD20.out.b (Nat.le_of_eq HKE.out.2.symm) _, HRP.out _ _ (Or.inr ⟨rfl, HBD.out, rfl⟩)⟩
  · skip
    have e1 : (((n : Nat) : Int) == 1) = false := by simp; omega
    have e2 : (((n : Nat) : Int) == 2) = false := by simp; omega
    have e3 : (((n : Nat) : Int) == 3) = false := by simp; omega
    have e10 : (((n : Nat) : Int) == 10) = false := by simp; omega
    have e5 : (((n : Nat) : Int) == 5) = false := by simp; omega
    have HBAD := Lib.hid (show ∀ x, R ≠ .ok (x, []) from (show G2 R bs p1 d1 (mkM (zM (n : Nat))) from HK1.out.eq fun t => by subst h0; rfl).end_bad (by subst h0; exact by unfold rightM; rw [show bodyM (zM ((0 : Nat) : Int)) = false from rfl, Bool.and_false]))
    clear HK1
    go_wp2_with fail
    refine (refsmall_any k cc A bs hlen hby 12 (by decide) p1 d1 w2 HD2.out.s).mono ?_
    rintro r w3 ⟨se, p2, f2, rfl, hS, hO, _, hP⟩
    have HD3 := Lib.hid (HD2.out.read hO hS)
    clear hP hO hS HD2 c0
    have hkA : w3.cell? ⟨c, 1, none⟩ = some (.int .i64 0) := (pm_all HD3.out.c0).2.2.2.2.2.1
    have hfA := HD3.out.c0.frozen 1
    have HD4 := Lib.hid (show RdS W k g c A cc bs (w3.setCell ⟨c, 1, none⟩ (.int .i64 (se : Nat))) p2 f2 { zM (n : Nat) with se := (se : Nat) } from HD3.out.put ((Off.refl _ _).set _ _) (pm_setH HD3.out.c0 (by omega) rfl rfl rfl rfl))
    go_upto_region 5 with fail
    obtain ⟨w4, hw⟩ : ∃ w4, w4 = w3.setCell ⟨c, 1, none⟩ (.int .i64 (se : Nat)) := ⟨_, rfl⟩
    rw [← hw] at HD4 ⊢
    clear hw hkA hfA HD3
    have c0 : World.cell? w4 ⟨c, 0, none⟩ = some (.int .i64 ((n : Nat) : Int)) := (pm_all HD4.out.c0).2.2.2.2.1
    have HRF := Lib.hid (show rightM { zM (n : Nat) with se := (se : Nat) } = false by subst h0; unfold rightM; rw [show bodyM { zM ((0 : Nat) : Int) with se := (se : Nat) } = false from rfl, Bool.and_false])
    clear h0
    have HFN := Lib.hid (show FinP R bs p2 f2 { zM (n : Nat) with se := (se : Nat) } from ⟨fun _ _ h => absurd (HRF.out.symm.trans h) (by simp), fun _ => HBAD.out, fun _ _ _ => HBAD.out, fun _ => lt_plain rfl rfl⟩)
    obtain ⟨m, hm⟩ : ∃ m : Ms, m = { zM (n : Nat) with se := (se : Nat) } := ⟨_, rfl⟩
    rw [← hm] at HFN HD4
    clear hm
    go_wp2_with fail
    refine (refend_any k cc A bs p2 f2 w4 HD4.out.s).mono ?_
    rintro r w20 ⟨z, rfl, hb, hz⟩
    have HZ := Lib.hid hz
    have HD20 := Lib.hid (HD4.out.next hb)
    clear hb hz HD4
    have rgx := HD20.out.c0.range
    have bg := HD20.out.g0
    by_cases hz0 : z = 0
    · have f1 : (z != 0) = false := by simpa using hz0
      obtain ⟨he1, hdr⟩ := HZ.out.1 hz0
      have HRR := Lib.hid (fun w => rright23_any m (HFN.out.lt he1) w)
      rcases hrm : rightM m with _ | _
      · rw [hrm] at HRR
        have HBD := Lib.hid (HFN.out.bad hrm)
        clear hz0 he1 hdr hrm
        go_wp2_with (first | (refine wpList_load_midg (by rfl) 44 _ rfl _ _ rfl (Ms.plain ?_) _ ?_ Tryz.underlying44 rfl (rminfo _) ?_; rotate_left; (focus assumption)) | (refine wpList_build_lit (Ms.plain (zM 0)).toArray rfl 44 _ rfl built_rz0 ?_) | (go_at_call 11; refine (HRR.out _).mono ?_; rintro r w21 ⟨rfl, hb⟩; have HB21 := Lib.hid (HD20.out.b.trans (hb.mono HD20.out.b.size)); have bg2 := HD20.out.g0.next hb; clear hb rgx bg HRR) | (refine wpList_store_blk rfl 44 _ _ rfl g 44 zrmA (Ms.plain (zM 0)).toArray rfl rfl bg2 (rminfoA _) (zrm_siz _) (pm_one _) ?_; intro hrow))
        refine bodyPost_row2 (t := 44) (Ms.plain (zM 0)) (.bool false) rfl rfl rfl rfl Tryz.underlying44 rfl (rminfo _) hrow ?_
        exact ⟨_, false, rfl, below_setRow HB21.out (Nat.le_of_eq HKE.out.2.symm) _, HRP.out _ _ (Or.inr ⟨rfl, HBD.out, rfl⟩)⟩
      · rw [hrm] at HRR
        have HYS := Lib.hid (HFN.out.yes he1 hdr hrm)
        clear hz0 he1 hdr hrm
        go_wp2_with (first | (refine wpList_load_midg (by rfl) 44 _ rfl _ _ rfl (Ms.plain ?_) _ ?_ Tryz.underlying44 rfl (rminfo _) ?_; rotate_left; (focus assumption)) | (go_at_call 11; refine (HRR.out _).mono ?_; rintro r w21 ⟨rfl, hb⟩; have HB21 := Lib.hid (HD20.out.b.trans (hb.mono HD20.out.b.size)); have bg2 := HD20.out.g0.next hb; have rg2 := (HD20.out.c0.next hb).range; clear hb rgx bg HRR) | (refine wpList_store_blk rfl 44 _ _ rfl g 44 zrmA (Ms.plain m).toArray rfl rfl bg2 (rminfoA _) (zrm_siz _) (pm_one _) ?_; intro hrow))
        refine bodyPost_row2 (t := 44) (Ms.plain m) (.bool true) rfl rfl rfl rfl Tryz.underlying44 rfl (rminfo _) hrow ?_
        exact ⟨_, true, rfl, below_setRow HB21.out (Nat.le_of_eq HKE.out.2.symm) _, HRP.out _ _ (Or.inl ⟨rfl, m, HYS.out, rfl⟩)⟩
    · have f1 : (z != 0) = true := by simpa using hz0
      have HBD := Lib.hid (HFN.out.no z HZ.out hz0)
      clear hz0
      go_wp2_with (first | (refine wpList_build_lit (Ms.plain (zM 0)).toArray rfl 44 _ rfl built_rz0 ?_) | (refine wpList_store_blk rfl 44 _ _ rfl g 44 zrmA (Ms.plain (zM 0)).toArray rfl rfl bg (rminfoA _) (zrm_siz _) (pm_one _) ?_; intro hrow))
      refine bodyPost_row2 (t := 44) (Ms.plain (zM 0)) (.bool false) rfl rfl rfl rfl Tryz.underlying44 rfl (rminfo _) hrow ?_
      exact ⟨_, false, rfl, below_setRow HD20.out.b (Nat.le_of_eq HKE.out.2.symm) _, HRP.out _ _ (Or.inr ⟨rfl, HBD.out, rfl⟩)⟩
end Mg
end Go.Proofs.YtkigaclcmodjaaaGreat
namespace Go.Proofs.YtkigaclcmodjaaaGreat
open Go.ChangeShapes Go.WideShapes Go.ChangeAt Go.RowKit

def zL : Lab := Lab.mk 0 0 0 0 0 (fun _ => 0)
theorem zL_right : rightL zL = false := by unfold rightL timeB zL; simp
theorem zL_cells : zL.cells.toArray = #[.int .u64 0, .int .i64 0, .int .u32 0, .int .i64 0, .int .i64 0, .int .u32 0, .int .u32 0, .int .u32 0, .int .u32 0, .int .u32 0, .int .u32 0, .int .u32 0, .int .u32 0, .int .u32 0, .int .u32 0, .int .u32 0, .int .u32 0] := by unfold Lab.cells vl zL; rfl
theorem zL_range {W : World} {g : Nat} {t : TypeId} (h : Blk W g t #[.int .u64 0, .int .i64 0, .int .u32 0, .int .i64 0, .int .i64 0, .int .u32 0, .int .u32 0, .int .u32 0, .int .u32 0, .int .u32 0, .int .u32 0, .int .u32 0, .int .u32 0, .int .u32 0, .int .u32 0, .int .u32 0, .int .u32 0]) : W.rangeAt g 0 zL.cells := by
  rw [← zL_cells] at h
  exact h.range
attribute [irreducible] zL
theorem ByR.take {W : World} {A : Option Addr} {bs : List Nat} (h : ByR W A bs) (k : Nat) : ByR W A (bs.take k) := by
  rcases h with rfl | ⟨b, p, e, h1, h2⟩
  · left; simp
  · refine Or.inr ⟨b, p, e, h1, fun i x hx => ?_⟩
    rw [List.getElem?_take] at hx
    split at hx
    · exact h2 i x hx
    · cases hx
section
variable {H : Type} {enc : TypeId × Value → H} {w : World}
set_option maxRecDepth 100000 in
/-- Bytes that came in. -/
theorem open_bytes {b0 : Nat} {r : Reach} {v : Value} {d : DataW H} {ps : List MemPlace} (hv : Value.okWide Tryz.prog w r b0 36 v) (h : DataW.Trod enc Tryz.prog w 0 (fun _ => true) true 36 v d ps) (hlt : ∀ x ∈ ps, x.block < w.heap.size) :
    ∃ (A : Option Addr) (m c : Nat) (bs : List Nat), v = .slice A m c ∧ bs.length = m ∧ m ≤ c ∧ c ≤ 9223372036854775807 ∧ (∀ x ∈ bs, x < 256) ∧ ByR w A bs ∧ (A = none → bs = []) := by
  obtain ⟨a0, len0, cap0, rfl⟩ := okWide_slice Tryz.underlying36 hv
  obtain ⟨fuel, hf⟩ := h
  obtain ⟨A, m, c, bs, e, h⟩ := open_bytes_cells hf hlt (fun _ => rfl)
  simp [Value.cells] at e
  obtain ⟨rfl, rfl, rfl⟩ := e
  exact ⟨_, _, _, bs, rfl, h⟩
end

end Go.Proofs.YtkigaclcmodjaaaGreat
namespace Go.Proofs.YtkigaclcmodjaaaGreat
open Go.RowKit Go.ChangeShapes Go.WideShapes Go.ChangeAt
set_option linter.unusedSimpArgs false
set_option linter.unusedVariables false
namespace Mg
theorem toList_beqM (a b : List Nat) (ha : ∀ x ∈ a, x < 256) (hb : ∀ x ∈ b, x < 256) : ((bstr a).toList == (bstr b).toList) = decide (a = b) := by
  by_cases h : a = b
  · subst h; rw [decide_eq_true rfl]; exact beq_self_eq_true _
  · rw [decide_eq_false h, beq_eq_false_iff_ne]
    intro e
    rw [bstr_lit, bstr_lit, ByteArray.toList_mk, ByteArray.toList_mk] at e
    exact h (bstr_inj ha hb (by rw [bstr_lit, bstr_lit, e]))
theorem str_eqlM (w : World) (a b : List Nat) (ha : ∀ x ∈ a, x < 256) (hb : ∀ x ∈ b, x < 256) : (binOp .eql 9 (.string (bstr a)) (.string (bstr b))).run Tryz.prog w = .ok (.bool (decide (a = b))) w := by
  rw [binOp_string_eql, toList_beqM a b ha hb]
  rfl
theorem app_lt {a b : List Nat} (ha : ∀ x ∈ a, x < 256) (hb : ∀ x ∈ b, x < 256) : ∀ x ∈ a ++ b, x < 256 := fun x hx => (List.mem_append.1 hx).elim (ha x) (hb x)
theorem nil_lt : ∀ x ∈ ([] : List Nat), x < 256 := fun x hx => by simp at hx
theorem if_lt {c : Bool} {a b : List Nat} (ha : ∀ x ∈ a, x < 256) (hb : ∀ x ∈ b, x < 256) : ∀ x ∈ (if c then a else b), x < 256 := by split <;> assumption
theorem encL_lt (l : Lab) : ∀ x ∈ encL l, x < 256 := by unfold encL; exact app_lt (app_lt (app_lt (app_lt (app_lt (enc_lt _) (enc_lt _)) (enc_lt _)) (enc_lt _)) (enc_lt _)) (encV_lt _)
theorem encO_lt (o : OpR) : ∀ x ∈ encO o, x < 256 := by unfold encO; exact app_lt (enc_lt _) (app_lt (if_lt (enc_lt _) nil_lt) (app_lt (if_lt (enc_lt _) nil_lt) (if_lt (by unfold encF; exact be8_lt _) nil_lt)))
theorem encE_lt (x : Ev) : ∀ y ∈ encE x, y < 256 := by unfold encE; exact app_lt (encL_lt _) (encO_lt _)
theorem encSt_lt (s : St) : ∀ x ∈ encSt s, x < 256 := by unfold encSt; exact if_lt (app_lt (app_lt (enc_lt _) (enc_lt _)) (encV_lt _)) (enc_lt _)
theorem encM_lt (m : Ms) : ∀ x ∈ encM m, x < 256 := by
  unfold encM
  exact app_lt (enc_lt _) (app_lt (if_lt (encL_lt _) nil_lt) (app_lt (if_lt (encE_lt _) nil_lt) (app_lt (if_lt (enc_lt _) nil_lt) (app_lt (if_lt (app_lt (enc_lt _) (app_lt (enc_lt _) (encSt_lt _))) nil_lt) (if_lt (enc_lt _) nil_lt)))))
/-- What is written: bytes, or an error. -/
def WrP (m : Ms) (v : Value) (c : Int) (W : World) : Prop := if rightM m then c = 0 ∧ BytesAt W v (encM m) else c = 3 ∧ v = .slice none 0 0
theorem WrP.yes {m : Ms} {v : Value} {c : Int} {W : World} (h : WrP m v c W) (hr : rightM m = true) : c = 0 ∧ BytesAt W v (encM m) := by unfold WrP at h; rwa [if_pos hr] at h
theorem WrP.no {m : Ms} {v : Value} {c : Int} {W : World} (h : WrP m v c W) (hr : rightM m = false) : c = 3 ∧ v = .slice none 0 0 := by unfold WrP at h; rwa [if_neg (by simp [hr])] at h
theorem ms_write_any (m : Ms) (W : World) (ho : Ms.Ok m) : Calls Tryz.prog 6 #[.agg m.cells.toArray] W fun e W' => ∃ v c, e = .returned (.tuple #[v, .int .i64 c]) ∧ WrP m v c W' ∧ Below W.heap.size W W' := by
  cases hr : rightM m with
  | false =>
    refine (ms_write_no m W hr).mono ?_
    rintro e W' ⟨rfl, hb⟩
    exact ⟨_, _, rfl, by unfold WrP; rw [if_neg (by simp [hr])]; exact ⟨rfl, rfl⟩, hb⟩
  | true =>
    refine (ms_write_yes m W hr ho).mono ?_
    rintro e W' ⟨v, rfl, hown, hb⟩
    exact ⟨_, _, rfl, by unfold WrP; rw [if_pos hr]; exact ⟨rfl, BytesAt.of hown⟩, hb⟩
theorem Ms.Bd.ok {m : Ms} (h : Ms.Bd m) : Ms.Ok m := ⟨h.l.f, h.x.l.f, h.x.o.p, h.s⟩
theorem encM_first {m : Ms} {n : Nat} (hk : m.k = (n : Nat)) (hn : n ≤ 10) : (encM m)[0]? = some n := by
  unfold encM
  rw [hk, wordN_nat n (by omega), enc_lo (by omega)]
  simp
theorem hd_inj {a b : Ms} (h : a.cells = b.cells) : a.hd = b.hd ∧ a.l.cells = b.l.cells ∧ a.x.cells = b.x.cells ∧ a.s.cells = b.s.cells := by
  rw [ms_def, ms_def] at h
  obtain ⟨h, hs⟩ := List.append_inj h (by simp only [List.length_append, hd_len, lab_len, ev_len])
  obtain ⟨h, hx⟩ := List.append_inj h (by simp only [List.length_append, hd_len, lab_len])
  obtain ⟨h, hl⟩ := List.append_inj h (by simp only [hd_len])
  exact ⟨h, hl, hx, hs⟩
theorem encL_cells {a b : Lab} (h : a.cells = b.cells) : encL a = encL b := by
  have h2 := (eqL_iff a b).2 h
  unfold eqL at h2
  simp only [Bool.and_eq_true, beq_iff_eq] at h2
  obtain ⟨⟨⟨⟨⟨h1, h2⟩, h3⟩, h4⟩, h5⟩, h6⟩ := h2
  exact (lab_same (by omega) h2 (by omega) h4 h5 ((eqB_iff _ _).1 h6)).2.1
theorem encV_ext {f g : Nat → Nat} (h : ∀ i, i < 12 → f i = g i) : encV f = encV g := by unfold encV; rw [topV_ext 12 h, trimV_ext h]
theorem encE_cells {a b : Ev} (h : a.cells = b.cells) : encE a = encE b := by
  have h2 := (sameE_iff a b).2 h
  unfold sameE at h2
  rw [Bool.and_eq_true] at h2
  unfold encE
  rw [encL_cells ((eqL_iff _ _).1 h2.1), sameO_eq h2.2]
theorem encSt_cells {a b : St} (h : a.cells = b.cells) : encSt a = encSt b := by
  have h2 := (eqSt_iff a b).2 h
  unfold eqSt at h2
  simp only [Bool.and_eq_true, beq_iff_eq] at h2
  obtain ⟨⟨h3, h4⟩, h5⟩ := h2
  unfold encSt
  rw [h3, show a.t = b.t by omega, encV_ext ((eqB_iff _ _).1 h5)]
theorem encM_cells {a b : Ms} (h : a.cells = b.cells) (_ : rightM a = true) (_ : rightM b = true) : encM a = encM b := by
  obtain ⟨h0, h1, h2, h3⟩ := hd_inj h
  unfold Ms.hd at h0
  simp only [List.cons.injEq, Value.int.injEq, true_and, and_true] at h0
  obtain ⟨k1, k2, k3, k4, k5⟩ := h0
  unfold encM
  rw [k1, k2, k3, k4, k5, encL_cells h1, encE_cells h2, encSt_cells h3]
theorem same_enc {p q : Ms} (hp : rightM p = true) (hq : rightM q = true) (op : Ms.Ok p) (oq : Ms.Ok q) : sameM p q = decide (encM p = encM q) := by
  rw [Bool.eq_iff_iff, sameM_iff, decide_eq_true_eq]
  constructor
  · intro h
    have h2 := msg_yes hp op
    have h3 := msg_yes hq oq
    have e1 := (msg_ok (encM_lt q) h3)
    have : encM (asM p) = encM p := by
      have := (msg_ok (encM_lt p) h2).1
      rw [List.append_nil] at this
      exact this.symm
    have e2 : encM (asM q) = encM q := by
      have := e1.1
      rw [List.append_nil] at this
      exact this.symm
    rw [← this, ← e2]
    exact encM_cells ((asM_cells hp).trans (h.trans (asM_cells hq).symm)) (rightM_asM hp) (rightM_asM hq)
  · intro h
    have h2 := msg_yes hp op
    have h3 := msg_yes hq oq
    rw [h, h3] at h2
    have : asM q = asM p := by simpa using h2
    rw [← asM_cells hp, ← asM_cells hq, this]
end Mg
open Mg

end Go.Proofs.YtkigaclcmodjaaaGreat
namespace Go.Proofs.YtkigaclcmodjaaaGreat
open Go.RowKit Go.ChangeShapes Go.WideShapes Go.ChangeAt
set_option linter.unusedSimpArgs false
set_option linter.unusedVariables false
namespace Mg
theorem zM0_right : rightM (zM 0) = false := by
  unfold rightM
  rw [show bodyM (zM 0) = false from rfl, Bool.and_false]
theorem msread_no' (A : Option Addr) (n cp : Nat) (W : World) (bs : List Nat) (hn : bs.length = n) (hnc : n ≤ cp) (hby : ∀ x ∈ bs, x < 256) (hbs : ByR W A bs) (h : ∀ l, msgP bs ≠ .ok (l, [])) :
    Calls Tryz.prog 8 #[.slice A n cp] W fun e W' => e = .returned (.tuple #[.agg (zM 0).cells.toArray, .int .i64 3]) ∧ Below W.heap.size W W' := by
  rw [zM_cells]
  exact msread_no A n cp W bs hn hnc hby hbs h
theorem encM_pos (m : Ms) : 0 < (encM m).length := by
  unfold encM
  have := enc_pos (wordN m.k)
  rw [List.length_append]
  omega
theorem encM_len {m : Ms} (hr : rightM m = true) (ho : Ms.Ok m) : (encM m).length ≤ 600 := by
  have hb := body_of hr
  unfold bodyM at hb
  unfold encM
  have e1 := enc_len _ (wordN_lt m.k)
  have e2 := enc_len _ (wordN_lt m.se)
  have e3 := enc_len _ (wordN_lt m.co)
  have e4 := enc_len _ (wordN_lt m.ca)
  have e5 := enc_len _ (wordN_lt m.ro)
  have e6 : (encSt m.s).length ≤ 200 := by
    unfold encSt
    have := enc_len 1 (by decide)
    have := enc_len 0 (by decide)
    have := enc_len m.s.t ho.s.t
    have := encV_len m.s.f ho.s.f
    split <;> (try simp only [List.length_append]) <;> omega
  rcases kd_any m.k with ⟨_, h1, h2, h3, h4, h5⟩ | ⟨_, h1, h2, h3, h4, h5⟩ | ⟨_, h1, h2, h3, h4, h5⟩ | ⟨_, h1, h2, h3, h4, h5⟩ | ⟨_, h1, h2, h3, h4, h5⟩ | ⟨_, h1, h2, h3, h4, h5⟩
  all_goals rw [h1, h2, h3, h4] at hb
  all_goals rw [h1, h2, h3, h4, h5]
  all_goals simp only [Bool.false_eq_true, if_false, if_true, Bool.and_eq_true] at hb
  all_goals simp only [Bool.false_eq_true, if_false, if_true, List.append_nil, List.nil_append, List.length_append]
  · have := encL_len hb ho.l
    omega
  · have : (encE m.x).length ≤ 300 := by unfold encE; rw [List.length_append]; have := encL_len (rightE_parts hb).1 ho.x; have := encO_len (may_ok (rightE_parts hb).2 ho.p); omega
    omega
  · omega
  · omega
  · omega
theorem byr_takeM {W : World} {A : Option Addr} {bs : List Nat} (h : ByR W A bs) (k : Nat) : ByR W A (bs.take k) := by
  rcases h with rfl | ⟨q, o, e, hq, hc⟩
  · left; simp
  · right
    refine ⟨q, o, e, hq, fun i x hx => hc i x ?_⟩
    rw [List.getElem?_take] at hx
    split at hx
    · exact hx
    · cases hx
end Mg
open Mg

end Go.Proofs.YtkigaclcmodjaaaGreat
namespace Go.Proofs.YtkigaclcmodjaaaGreat
open Go.RowKit Go.ChangeShapes Go.WideShapes Go.ChangeAt
set_option linter.unusedSimpArgs false
set_option linter.unusedVariables false
namespace Mg
theorem WrP.next {m : Ms} {v : Value} {c : Int} {W W' : World} (h : WrP m v c W) (hb : Below W.heap.size W W') : WrP m v c W' := by
  cases hr : rightM m with
  | true => have := h.yes hr; unfold WrP; rw [if_pos hr]; exact ⟨this.1, this.2.next hb⟩
  | false => have := h.no hr; unfold WrP; rw [if_neg (by simp [hr])]; exact this
theorem lt_bd {m : Ms} (h : Ms.Bd m) : Ms.Lt m := ⟨h.l.f, h.l.n, h.x.l.f, h.x.l.n⟩
/-- Both reads of bytes. -/
def RB (As : Option Addr) (n cs : Nat) (sb : List Nat) (mm : Ms) (ec : Int) (ok : Bool) : Prop := ∀ w, ByR w As sb →
  (Calls Tryz.prog 8 #[.slice As n cs] w fun e W' => e = .returned (.tuple #[.agg mm.cells.toArray, .int .i64 ec]) ∧ Below w.heap.size w W') ∧
  (Calls Tryz.prog 9 #[.slice As n cs] w fun e W' => e = .returned (.tuple #[.agg (Ms.plain mm).toArray, .bool ok]) ∧ Below w.heap.size w W')
theorem read_both (As : Option Addr) (n cs : Nat) (sb : List Nat) (hn : sb.length = n) (hnc : n ≤ cs) (hb256 : ∀ x ∈ sb, x < 256) (hl : n ≤ 400) : ∃ mm, RB As n cs sb mm 0 true ∨ RB As n cs sb mm 3 false := by
  have hr : ∀ w, ByR w As sb → Calls Tryz.prog 9 #[.slice As n cs] w fun r W' => ∃ v ok, r = .returned (.tuple #[v, .bool ok]) ∧ Below w.heap.size w W' ∧ RdP sb v ok := fun w h => by
    have := rread23_any As cs sb (by omega) (by omega) hb256 w h
    rwa [hn] at this
  by_cases hP : ∃ m, msgP sb = .ok (m, [])
  · obtain ⟨m, hm⟩ := hP
    refine ⟨m, Or.inl fun w h => ⟨msread_yes As n cs w sb hn hnc hb256 h m hm, (hr w h).mono ?_⟩⟩
    rintro e W' ⟨v, ok, rfl, hb, ⟨rfl, m', hm', rfl⟩ | ⟨rfl, h2, _⟩⟩
    · rw [hm] at hm'
      simp only [Except.ok.injEq, Prod.mk.injEq, and_true] at hm'
      subst hm'
      exact ⟨rfl, hb⟩
    · exact absurd hm (h2 m)
  · refine ⟨zM 0, Or.inr fun w h => ⟨msread_no' As n cs w sb hn hnc hb256 h (fun m hm => hP ⟨m, hm⟩), (hr w h).mono ?_⟩⟩
    rintro e W' ⟨v, ok, rfl, hb, ⟨rfl, m', hm', rfl⟩ | ⟨rfl, h2, rfl⟩⟩
    · exact absurd ⟨m', hm'⟩ hP
    · exact ⟨rfl, hb⟩
set_option maxRecDepth 100000 in
set_option maxHeartbeats 32000000 in
theorem tells_walk (p q : Ms) (hp : Ms.Bd p) (hq : Ms.Bd q) (As : Option Addr) (n cs : Nat) (sb : List Nat) (W : World) (hn : sb.length = n) (hnc : n ≤ cs) (hb256 : ∀ x ∈ sb, x < 256) (hby : ByR W As sb) :
    Calls Tryz.prog 3 #[.agg (Ms.plain p).toArray, .agg (Ms.plain q).toArray, .slice As n cs] W fun e W' => e = .returned (.bool true) ∧ Below W.heap.size W W' := by
  have bA := (Blk.new W 35 (Ms.plain p).toArray).alloc (.cells (Ms.plain q).toArray 35)
  have bB : Blk ((W.alloc (.cells (Ms.plain p).toArray 35)).alloc (.cells (Ms.plain q).toArray 35)) (W.heap.size + 1) 35 (Ms.plain q).toArray := Blk.new' (by simp)
  have hB := ((Below.refl W.heap.size W).alloc (Nat.le_refl _) (.cells (Ms.plain p).toArray 35)).alloc (by simp) (.cells (Ms.plain q).toArray 35)
  have HBY := Lib.hid hby
  have HOP := Lib.hid hp
  have HOQ := Lib.hid hq
  have HNN := Lib.hid (And.intro hn (And.intro hnc hb256))
  clear hby hp hq hn hnc hb256
  go_enter Tryz.func3, Tryz.ntmps3
  go_upto_region 1 with fail
  obtain ⟨w1, hw1⟩ : ∃ w1, w1 = (W.alloc (.cells (Ms.plain p).toArray 35)).alloc (.cells (Ms.plain q).toArray 35) := ⟨_, rfl⟩
  rw [← hw1] at bA bB hB ⊢
  have Hw1 := Lib.hid (show Below W.heap.size W w1 ∧ ByR w1 As sb from ⟨hB, HBY.out.next hB⟩)
  have HP1 := Lib.hid bA
  have HQ1 := Lib.hid bB
  clear hw1 hB bA bB HBY
  by_cases hbig : (400 : Int) < (n : Nat)
  · go_wp2_with (go_at_call 4; refine (alive23_any _).mono ?_; rintro e w6 ⟨rfl, hb⟩; have HB6 := Lib.hid (Hw1.out.1.trans (hb.mono Hw1.out.1.size)); clear hb)
    go_ret
    exact ⟨rfl, HB6.out⟩
  obtain ⟨mm, hrb⟩ := read_both As n cs sb HNN.out.1 HNN.out.2.1 HNN.out.2.2 (by omega)
  have HRB := Lib.hid hrb
  clear hrb
  have rp := HP1.out.range
  go_wp2_with (first | (refine wpList_load_midg (by rfl) 35 _ rfl _ _ rfl (Ms.plain ?_) _ ?_ Tryz.underlying35 rfl (pminfo _) ?_; rotate_left; (focus assumption)))
  clear rp hbig
  refine (as23_any p w1).mono ?_
  rintro e w2 ⟨rfl, hb⟩
  have Hw2 := Lib.hid (show Below W.heap.size W w2 ∧ ByR w2 As sb from ⟨Hw1.out.1.trans (hb.mono Hw1.out.1.size), Hw1.out.2.next hb⟩)
  have HP2 := Lib.hid (HP1.out.next hb)
  have HQ2 := Lib.hid (HQ1.out.next hb)
  clear hb Hw1 HP1 HQ1
  go_upto_region 4 with (refine wpList_store_blk rfl 44 _ _ rfl (w2).heap.size 44 zrmA (Ms.plain p).toArray rfl rfl (Blk.new' rfl) (rminfoA _) (zrm_siz _) (pm_one _) ?_; intro hy; have hbn : Below (w2).heap.size w2 (((w2).alloc (.cells zrmA 44)).setRow (w2).heap.size (Ms.plain p).toArray) := below_setRow ((Below.refl _ _).alloc (Nat.le_refl _) _) (Nat.le_refl _) _; obtain ⟨w3, hnw⟩ : ∃ w3, w3 = (((w2).alloc (.cells zrmA 44)).setRow (w2).heap.size (Ms.plain p).toArray) := ⟨_, rfl⟩; rw [← hnw] at hbn hy ⊢; clear hnw)
  obtain ⟨g7, hg7⟩ : ∃ g7, g7 = w2.heap.size := ⟨_, rfl⟩
  rw [← hg7] at hy ⊢
  have HX3 := Lib.hid hy
  clear hg7 hy
  have Hw3 := Lib.hid (show Below W.heap.size W w3 ∧ ByR w3 As sb from ⟨Hw2.out.1.trans (hbn.mono Hw2.out.1.size), Hw2.out.2.next hbn⟩)
  have HP3 := Lib.hid (HP2.out.next hbn)
  have HQ3 := Lib.hid (HQ2.out.next hbn)
  clear hbn Hw2 HP2 HQ2
  have rp := HP3.out.range
  go_wp2_with (first | (refine wpList_load_midg (by rfl) 35 _ rfl _ _ rfl (Ms.plain ?_) _ ?_ Tryz.underlying35 rfl (pminfo _) ?_; rotate_left; (focus assumption)))
  clear rp
  refine (plainmsg_any p w3).mono ?_
  rintro e w4 ⟨rfl, hb⟩
  have Hw4 := Lib.hid (show Below W.heap.size W w4 ∧ ByR w4 As sb from ⟨Hw3.out.1.trans (hb.mono Hw3.out.1.size), Hw3.out.2.next hb⟩)
  have HP4 := Lib.hid (HP3.out.next hb)
  have HQ4 := Lib.hid (HQ3.out.next hb)
  have HX4 := Lib.hid (HX3.out.next hb)
  clear hb Hw3 HP3 HQ3 HX3
  go_wp2_with fail
  refine (ms_write_any p w4 HOP.out.ok).mono ?_
  rintro e w5 ⟨va, ca, rfl, hwa, hb⟩
  have HWA5 := Lib.hid hwa
  clear hwa
  have Hw5 := Lib.hid (show Below W.heap.size W w5 ∧ ByR w5 As sb from ⟨Hw4.out.1.trans (hb.mono Hw4.out.1.size), Hw4.out.2.next hb⟩)
  have HP5 := Lib.hid (HP4.out.next hb)
  have HQ5 := Lib.hid (HQ4.out.next hb)
  have HX5 := Lib.hid (HX4.out.next hb)
  clear hb Hw4 HP4 HQ4 HX4
  rcases HRB.out with hrb | hrb
  · have HRB := Lib.hid hrb
    clear hrb
    go_wp2_with fail
    refine ((HRB.out _ Hw5.out.2).1).mono ?_
    rintro e w6 ⟨rfl, hb⟩
    have Hw6 := Lib.hid (show Below W.heap.size W w6 ∧ ByR w6 As sb from ⟨Hw5.out.1.trans (hb.mono Hw5.out.1.size), Hw5.out.2.next hb⟩)
    have HP6 := Lib.hid (HP5.out.next hb)
    have HQ6 := Lib.hid (HQ5.out.next hb)
    have HX6 := Lib.hid (HX5.out.next hb)
    have HWA6 := Lib.hid (HWA5.out.next hb)
    clear hb Hw5 HP5 HQ5 HX5 HWA5
    go_upto_region 6 with (refine wpList_store_blk rfl 55 _ _ rfl (w6).heap.size 55 zmsA mm.cells.toArray rfl rfl (Blk.new' rfl) (msinfoA _) (zms_siz _) (ms_one _) ?_; intro hy; have hbn : Below (w6).heap.size w6 (((w6).alloc (.cells zmsA 55)).setRow (w6).heap.size mm.cells.toArray) := below_setRow ((Below.refl _ _).alloc (Nat.le_refl _) _) (Nat.le_refl _) _; obtain ⟨w7, hnw⟩ : ∃ w7, w7 = (((w6).alloc (.cells zmsA 55)).setRow (w6).heap.size mm.cells.toArray) := ⟨_, rfl⟩; rw [← hnw] at hbn hy ⊢; clear hnw; skip)
    obtain ⟨g10, hg10⟩ : ∃ g10, g10 = w6.heap.size := ⟨_, rfl⟩
    rw [← hg10] at hy ⊢
    have HM7 := Lib.hid hy
    clear hg10 hy
    have Hw7 := Lib.hid (show Below W.heap.size W w7 ∧ ByR w7 As sb from ⟨Hw6.out.1.trans (hbn.mono Hw6.out.1.size), Hw6.out.2.next hbn⟩)
    have HP7 := Lib.hid (HP6.out.next hbn)
    have HQ7 := Lib.hid (HQ6.out.next hbn)
    have HX7 := Lib.hid (HX6.out.next hbn)
    have HWA7 := Lib.hid (HWA6.out.next hbn)
    clear hbn Hw6 HP6 HQ6 HX6 HWA6
    go_wp2_with fail
    refine ((HRB.out _ Hw7.out.2).2).mono ?_
    rintro e w8 ⟨rfl, hb⟩
    have Hw8 := Lib.hid (show Below W.heap.size W w8 ∧ ByR w8 As sb from ⟨Hw7.out.1.trans (hb.mono Hw7.out.1.size), Hw7.out.2.next hb⟩)
    have HP8 := Lib.hid (HP7.out.next hb)
    have HQ8 := Lib.hid (HQ7.out.next hb)
    have HX8 := Lib.hid (HX7.out.next hb)
    have HWA8 := Lib.hid (HWA7.out.next hb)
    have HM8 := Lib.hid (HM7.out.next hb)
    clear hb Hw7 HP7 HQ7 HX7 HWA7 HM7
    go_upto_region 7 with (refine wpList_store_blk rfl 44 _ _ rfl (w8).heap.size 44 zrmA (Ms.plain mm).toArray rfl rfl (Blk.new' rfl) (rminfoA _) (zrm_siz _) (pm_one _) ?_; intro hy; have hbn : Below (w8).heap.size w8 (((w8).alloc (.cells zrmA 44)).setRow (w8).heap.size (Ms.plain mm).toArray) := below_setRow ((Below.refl _ _).alloc (Nat.le_refl _) _) (Nat.le_refl _) _; obtain ⟨w9, hnw⟩ : ∃ w9, w9 = (((w8).alloc (.cells zrmA 44)).setRow (w8).heap.size (Ms.plain mm).toArray) := ⟨_, rfl⟩; rw [← hnw] at hbn hy ⊢; clear hnw)
    obtain ⟨g12, hg12⟩ : ∃ g12, g12 = w8.heap.size := ⟨_, rfl⟩
    rw [← hg12] at hy ⊢
    have HY9 := Lib.hid hy
    clear hg12 hy
    have Hw9 := Lib.hid (show Below W.heap.size W w9 ∧ ByR w9 As sb from ⟨Hw8.out.1.trans (hbn.mono Hw8.out.1.size), Hw8.out.2.next hbn⟩)
    have HP9 := Lib.hid (HP8.out.next hbn)
    have HQ9 := Lib.hid (HQ8.out.next hbn)
    have HX9 := Lib.hid (HX8.out.next hbn)
    have HWA9 := Lib.hid (HWA8.out.next hbn)
    have HM9 := Lib.hid (HM8.out.next hbn)
    clear hbn Hw8 HP8 HQ8 HX8 HWA8 HM8
    have HR1 := Lib.hid (right_any p)
    have HR2 := Lib.hid (rright23_any p (lt_bd HOP.out))
    have HS := Lib.hid (same_any p q)
    have eq1 := fun w => eq_rmsg p q w
    have eq2 := fun w => eq_rmsg mm mm w
    rw [show sameM mm mm = true from (sameM_iff _ _).2 rfl] at eq2
    obtain ⟨rm, hrm⟩ : ∃ rm, rm = rightM p := ⟨_, rfl⟩
    obtain ⟨sm, hsm⟩ : ∃ sm, sm = sameM p q := ⟨_, rfl⟩
    simp only [← hrm] at HR1 HR2
    simp only [← hsm] at HS eq1
    have HRM := Lib.hid hrm
    clear hrm hsm
    have r1 := HP9.out.range
    have r2 := HQ9.out.range
    have r3 := HX9.out.range
    have r4 := HM9.out.range
    have r5 := HY9.out.range
    refine wp_region_tree (S := (fun W' => Below (w9).heap.size w9 W')) (.take 0 (.take 3 (.one 1 (.one 2 (.one 4 (.take 5 (.take 6 (.take 7 (.take 9 (.take 12 (.take 13 (.one 8 (.one 10 (.one 11 (.one 14 (.take 15 (.take 16 (.take 17 (.take 18 (.take 19 (.take 21 (.one 20 (.take 22 (.take 23 (.take 24 (.take 25 (.take 26 (.take 27 (.take 28 (.take 29 (.take 30 (.take 31 (.take 32 (.take 33 (.take 34 (.take 35 (.take 36 (.take 37 .nil)))))))))))))))))))))))))))))))))))))) 9999 (by kernel_rfl) (by kernel_rfl) (by kernel_rfl) (by kernel_rfl) (by kernel_rfl) (fun _ _ d _ _ h => by cases d <;> exact h) ?_ (fun hHeld => ?_); (focus (exact (Below.refl _ _).drew)); simp only [Tree.map, List.getElem?_toArray, List.getElem?_cons_zero, List.getElem?_cons_succ]
    (repeat (first | (refine wpTree.take (v := undef) (Or.inr ⟨by rfl, rfl⟩) ?_; simp only [Act.put, List.setIfInBounds_toArray, List.set_cons_zero, List.set_cons_succ]) | (refine wpTree.take (v := .agg (Ms.plain ?_).toArray) (yieldsIf_load_mid rfl 35 _ rfl _ _ rfl (Ms.plain _) _ ?_ Tryz.underlying35 rfl (pminfo _)) ?_; rotate_left; (focus (intro _ hS; refine range_next hS ?_; assumption)); simp only [Act.put, List.setIfInBounds_toArray, List.set_cons_zero, List.set_cons_succ]) | (refine wpTree.take (v := .agg (Ms.plain ?_).toArray) (yieldsIf_load_mid rfl 44 _ rfl _ _ rfl (Ms.plain _) _ ?_ Tryz.underlying44 rfl (rminfo _)) ?_; rotate_left; (focus (intro _ hS; refine range_next hS ?_; assumption)); simp only [Act.put, List.setIfInBounds_toArray, List.set_cons_zero, List.set_cons_succ]) | (refine wpTree.take (v := .agg (Ms.cells ?_).toArray) (yieldsIf_load_mid rfl 55 _ rfl _ _ rfl (Ms.cells _) _ ?_ Tryz.underlying55 rfl (msinfo _)) ?_; rotate_left; (focus (intro _ hS; refine range_next hS ?_; assumption)); simp only [Act.put, List.setIfInBounds_toArray, List.set_cons_zero, List.set_cons_succ]) | (refine wpTree.take (v := ?_) (Or.inl ⟨by rfl, ?_⟩) ?_; rotate_left; (focus (intro _ hS; (try dsimp only at hS); go_split_ands; (try subst hS); go_simp; (try (with_reducible rfl)); done)); simp only [Act.put, List.setIfInBounds_toArray, List.set_cons_zero, List.set_cons_succ])))
    refine wpTree.one (fun K hK => ?_)
    go_simp
    go_at_call 7
    refine (plainmsg_any p _).mono ?_
    rintro e u1 ⟨rfl, hbu1⟩
    have hBelow := Below.trans hHeld (hbu1.mono (Below.size hHeld))
    refine hK.out _ _ hBelow (fun hHeld' => ?_)
    clear hK K hHeld hbu1 hBelow
    have hHeld := hHeld'
    clear hHeld'
    refine wpTree.one (fun K hK => ?_)
    go_simp
    go_at_call 10
    refine (HR1.out _).mono ?_
    rintro e u2 ⟨rfl, hbu2⟩
    have hBelow := Below.trans hHeld (hbu2.mono (Below.size hHeld))
    refine hK.out _ _ hBelow (fun hHeld' => ?_)
    clear hK K hHeld hbu2 hBelow
    have hHeld := hHeld'
    clear hHeld'
    (repeat (first | (refine wpTree.take (v := undef) (Or.inr ⟨by rfl, rfl⟩) ?_; simp only [Act.put, List.setIfInBounds_toArray, List.set_cons_zero, List.set_cons_succ]) | (refine wpTree.take (v := .agg (Ms.plain ?_).toArray) (yieldsIf_load_mid rfl 35 _ rfl _ _ rfl (Ms.plain _) _ ?_ Tryz.underlying35 rfl (pminfo _)) ?_; rotate_left; (focus (intro _ hS; refine range_next hS ?_; assumption)); simp only [Act.put, List.setIfInBounds_toArray, List.set_cons_zero, List.set_cons_succ]) | (refine wpTree.take (v := .agg (Ms.plain ?_).toArray) (yieldsIf_load_mid rfl 44 _ rfl _ _ rfl (Ms.plain _) _ ?_ Tryz.underlying44 rfl (rminfo _)) ?_; rotate_left; (focus (intro _ hS; refine range_next hS ?_; assumption)); simp only [Act.put, List.setIfInBounds_toArray, List.set_cons_zero, List.set_cons_succ]) | (refine wpTree.take (v := .agg (Ms.cells ?_).toArray) (yieldsIf_load_mid rfl 55 _ rfl _ _ rfl (Ms.cells _) _ ?_ Tryz.underlying55 rfl (msinfo _)) ?_; rotate_left; (focus (intro _ hS; refine range_next hS ?_; assumption)); simp only [Act.put, List.setIfInBounds_toArray, List.set_cons_zero, List.set_cons_succ]) | (refine wpTree.take (v := ?_) (Or.inl ⟨by rfl, ?_⟩) ?_; rotate_left; (focus (intro _ hS; (try dsimp only at hS); go_split_ands; (try subst hS); go_simp; (try (with_reducible rfl)); done)); simp only [Act.put, List.setIfInBounds_toArray, List.set_cons_zero, List.set_cons_succ])))
    refine wpTree.one (fun K hK => ?_)
    go_simp
    go_at_call 11
    refine (HR2.out _).mono ?_
    rintro e u3 ⟨rfl, hbu3⟩
    have hBelow := Below.trans hHeld (hbu3.mono (Below.size hHeld))
    refine hK.out _ _ hBelow (fun hHeld' => ?_)
    clear hK K hHeld hbu3 hBelow
    have hHeld := hHeld'
    clear hHeld'
    (repeat (first | (refine wpTree.take (v := undef) (Or.inr ⟨by rfl, rfl⟩) ?_; simp only [Act.put, List.setIfInBounds_toArray, List.set_cons_zero, List.set_cons_succ]) | (refine wpTree.take (v := .agg (Ms.plain ?_).toArray) (yieldsIf_load_mid rfl 35 _ rfl _ _ rfl (Ms.plain _) _ ?_ Tryz.underlying35 rfl (pminfo _)) ?_; rotate_left; (focus (intro _ hS; refine range_next hS ?_; assumption)); simp only [Act.put, List.setIfInBounds_toArray, List.set_cons_zero, List.set_cons_succ]) | (refine wpTree.take (v := .agg (Ms.plain ?_).toArray) (yieldsIf_load_mid rfl 44 _ rfl _ _ rfl (Ms.plain _) _ ?_ Tryz.underlying44 rfl (rminfo _)) ?_; rotate_left; (focus (intro _ hS; refine range_next hS ?_; assumption)); simp only [Act.put, List.setIfInBounds_toArray, List.set_cons_zero, List.set_cons_succ]) | (refine wpTree.take (v := .agg (Ms.cells ?_).toArray) (yieldsIf_load_mid rfl 55 _ rfl _ _ rfl (Ms.cells _) _ ?_ Tryz.underlying55 rfl (msinfo _)) ?_; rotate_left; (focus (intro _ hS; refine range_next hS ?_; assumption)); simp only [Act.put, List.setIfInBounds_toArray, List.set_cons_zero, List.set_cons_succ]) | (refine wpTree.take (v := ?_) (Or.inl ⟨by rfl, ?_⟩) ?_; rotate_left; (focus (intro _ hS; (try dsimp only at hS); go_split_ands; (try subst hS); go_simp; (try (with_reducible rfl)); done)); simp only [Act.put, List.setIfInBounds_toArray, List.set_cons_zero, List.set_cons_succ])))
    refine wpTree.one (fun K hK => ?_)
    go_simp
    go_at_call 7
    refine (plainmsg_any p _).mono ?_
    rintro e u4 ⟨rfl, hbu4⟩
    have hBelow := Below.trans hHeld (hbu4.mono (Below.size hHeld))
    refine hK.out _ _ hBelow (fun hHeld' => ?_)
    clear hK K hHeld hbu4 hBelow
    have hHeld := hHeld'
    clear hHeld'
    (repeat (first | (refine wpTree.take (v := undef) (Or.inr ⟨by rfl, rfl⟩) ?_; simp only [Act.put, List.setIfInBounds_toArray, List.set_cons_zero, List.set_cons_succ]) | (refine wpTree.take (v := .agg (Ms.plain ?_).toArray) (yieldsIf_load_mid rfl 35 _ rfl _ _ rfl (Ms.plain _) _ ?_ Tryz.underlying35 rfl (pminfo _)) ?_; rotate_left; (focus (intro _ hS; refine range_next hS ?_; assumption)); simp only [Act.put, List.setIfInBounds_toArray, List.set_cons_zero, List.set_cons_succ]) | (refine wpTree.take (v := .agg (Ms.plain ?_).toArray) (yieldsIf_load_mid rfl 44 _ rfl _ _ rfl (Ms.plain _) _ ?_ Tryz.underlying44 rfl (rminfo _)) ?_; rotate_left; (focus (intro _ hS; refine range_next hS ?_; assumption)); simp only [Act.put, List.setIfInBounds_toArray, List.set_cons_zero, List.set_cons_succ]) | (refine wpTree.take (v := .agg (Ms.cells ?_).toArray) (yieldsIf_load_mid rfl 55 _ rfl _ _ rfl (Ms.cells _) _ ?_ Tryz.underlying55 rfl (msinfo _)) ?_; rotate_left; (focus (intro _ hS; refine range_next hS ?_; assumption)); simp only [Act.put, List.setIfInBounds_toArray, List.set_cons_zero, List.set_cons_succ]) | (refine wpTree.take (v := ?_) (Or.inl ⟨by rfl, ?_⟩) ?_; rotate_left; (focus (intro _ hS; (try dsimp only at hS); go_split_ands; (try subst hS); go_simp; (try (with_reducible rfl)); done)); simp only [Act.put, List.setIfInBounds_toArray, List.set_cons_zero, List.set_cons_succ])))
    refine wpTree.one (fun K hK => ?_)
    go_simp
    go_at_call 7
    refine (plainmsg_any q _).mono ?_
    rintro e u5 ⟨rfl, hbu5⟩
    have hBelow := Below.trans hHeld (hbu5.mono (Below.size hHeld))
    refine hK.out _ _ hBelow (fun hHeld' => ?_)
    clear hK K hHeld hbu5 hBelow
    have hHeld := hHeld'
    clear hHeld'
    refine wpTree.one (fun K hK => ?_)
    go_simp
    go_at_call 12
    refine (HS.out _).mono ?_
    rintro e u6 ⟨rfl, hbu6⟩
    have hBelow := Below.trans hHeld (hbu6.mono (Below.size hHeld))
    refine hK.out _ _ hBelow (fun hHeld' => ?_)
    clear hK K hHeld hbu6 hBelow
    have hHeld := hHeld'
    clear hHeld'
    refine wpTree.one (fun K hK => ?_)
    go_simp
    go_at_call 5
    refine (as23_any q _).mono ?_
    rintro e u7 ⟨rfl, hbu7⟩
    have hBelow := Below.trans hHeld (hbu7.mono (Below.size hHeld))
    refine hK.out _ _ hBelow (fun hHeld' => ?_)
    clear hK K hHeld hbu7 hBelow
    have hHeld := hHeld'
    clear hHeld'
    (repeat (first | (refine wpTree.take (v := undef) (Or.inr ⟨by rfl, rfl⟩) ?_; simp only [Act.put, List.setIfInBounds_toArray, List.set_cons_zero, List.set_cons_succ]) | (refine wpTree.take (v := .agg (Ms.plain ?_).toArray) (yieldsIf_load_mid rfl 35 _ rfl _ _ rfl (Ms.plain _) _ ?_ Tryz.underlying35 rfl (pminfo _)) ?_; rotate_left; (focus (intro _ hS; refine range_next hS ?_; assumption)); simp only [Act.put, List.setIfInBounds_toArray, List.set_cons_zero, List.set_cons_succ]) | (refine wpTree.take (v := .agg (Ms.plain ?_).toArray) (yieldsIf_load_mid rfl 44 _ rfl _ _ rfl (Ms.plain _) _ ?_ Tryz.underlying44 rfl (rminfo _)) ?_; rotate_left; (focus (intro _ hS; refine range_next hS ?_; assumption)); simp only [Act.put, List.setIfInBounds_toArray, List.set_cons_zero, List.set_cons_succ]) | (refine wpTree.take (v := .agg (Ms.cells ?_).toArray) (yieldsIf_load_mid rfl 55 _ rfl _ _ rfl (Ms.cells _) _ ?_ Tryz.underlying55 rfl (msinfo _)) ?_; rotate_left; (focus (intro _ hS; refine range_next hS ?_; assumption)); simp only [Act.put, List.setIfInBounds_toArray, List.set_cons_zero, List.set_cons_succ]) | (refine wpTree.take (v := ?_) (Or.inl ⟨by rfl, ?_⟩) ?_; rotate_left; (focus (intro _ hS; (try dsimp only at hS); go_split_ands; (try subst hS); go_simp; (try (with_reducible rfl)); done)); simp only [Act.put, List.setIfInBounds_toArray, List.set_cons_zero, List.set_cons_succ])))
    refine wpTree.one (fun K hK => ?_)
    go_simp
    go_at_call 13
    refine (of23_any mm _).mono ?_
    rintro e u8 ⟨rfl, hbu8⟩
    have hBelow := Below.trans hHeld (hbu8.mono (Below.size hHeld))
    refine hK.out _ _ hBelow (fun hHeld' => ?_)
    clear hK K hHeld hbu8 hBelow
    have hHeld := hHeld'
    clear hHeld'
    (repeat (first | (refine wpTree.take (v := undef) (Or.inr ⟨by rfl, rfl⟩) ?_; simp only [Act.put, List.setIfInBounds_toArray, List.set_cons_zero, List.set_cons_succ]) | (refine wpTree.take (v := .agg (Ms.plain ?_).toArray) (yieldsIf_load_mid rfl 35 _ rfl _ _ rfl (Ms.plain _) _ ?_ Tryz.underlying35 rfl (pminfo _)) ?_; rotate_left; (focus (intro _ hS; refine range_next hS ?_; assumption)); simp only [Act.put, List.setIfInBounds_toArray, List.set_cons_zero, List.set_cons_succ]) | (refine wpTree.take (v := .agg (Ms.plain ?_).toArray) (yieldsIf_load_mid rfl 44 _ rfl _ _ rfl (Ms.plain _) _ ?_ Tryz.underlying44 rfl (rminfo _)) ?_; rotate_left; (focus (intro _ hS; refine range_next hS ?_; assumption)); simp only [Act.put, List.setIfInBounds_toArray, List.set_cons_zero, List.set_cons_succ]) | (refine wpTree.take (v := .agg (Ms.cells ?_).toArray) (yieldsIf_load_mid rfl 55 _ rfl _ _ rfl (Ms.cells _) _ ?_ Tryz.underlying55 rfl (msinfo _)) ?_; rotate_left; (focus (intro _ hS; refine range_next hS ?_; assumption)); simp only [Act.put, List.setIfInBounds_toArray, List.set_cons_zero, List.set_cons_succ]) | (refine wpTree.take (v := ?_) (Or.inl ⟨by rfl, ?_⟩) ?_; rotate_left; (focus (intro _ hS; (try dsimp only at hS); go_split_ands; (try subst hS); go_simp; (try (with_reducible rfl)); done)); simp only [Act.put, List.setIfInBounds_toArray, List.set_cons_zero, List.set_cons_succ])))
    refine wpTree.done ?_
    have Hu := Lib.hid (show Below W.heap.size W u8 from Hw9.out.1.trans (hHeld.mono Hw9.out.1.size))
    have HXu := Lib.hid (HX9.out.next hHeld)
    have HWAu := Lib.hid (HWA9.out.next hHeld)
    clear hHeld r1 r2 r3 r4 r5 eq1 eq2 HP9 HQ9 HX9 HM9 HY9 HWA9 HS HR1 Hw9 HRB
    have rx := HXu.out.range
    go_wp2_with (first | (refine wpList_load_midg (by rfl) 44 _ rfl _ _ rfl (Ms.plain ?_) _ ?_ Tryz.underlying44 rfl (rminfo _) ?_; rotate_left; (focus assumption)))
    clear rx
    cases rm with
    | false =>
      obtain ⟨rfl, rfl⟩ := HWAu.out.no HRM.out.symm
      clear HWAu
      refine (HR2.out _).mono ?_
      rintro e w10 ⟨rfl, hb⟩
      have H10 := Lib.hid (Hu.out.trans (hb.mono Hu.out.size))
      clear hb HR2 Hu HXu
      go_wp2_with fail
      refine (alive23_any _).mono ?_
      rintro e w11 ⟨rfl, hb⟩
      have H11 := Lib.hid (H10.out.trans (hb.mono H10.out.size))
      clear hb
      go_wp2_with fail
      go_ret
      exact ⟨rfl, H11.out⟩
    | true =>
      obtain ⟨rfl, hva⟩ := HWAu.out.yes HRM.out.symm
      refine (HR2.out _).mono ?_
      rintro e w10 ⟨rfl, hb⟩
      have H10 := Lib.hid (Hu.out.trans (hb.mono Hu.out.size))
      have HX10 := Lib.hid (HXu.out.next hb)
      have HA := Lib.hid (hva.next hb)
      have HWR := Lib.hid (fun w => rwrite23_any p HOP.out HRM.out.symm w)
      have HLT := Lib.hid (encM_lt p)
      obtain ⟨E, hE⟩ : ∃ E, E = encM p := ⟨_, rfl⟩
      simp only [← hE] at HA HWR HLT
      clear hb hva HR2 Hu HXu HWAu hE
      go_upto_region 11 with fail
      have rx := HX10.out.range
      refine wp_region_tree (S := (fun w => Below w10.heap.size w10 w)) (.one 0 (.take 1 (.take 2 (.take 3 (.take 4 (.take 5 (.take 6 (.take 7 (.take 8 (.one 9 (.one 10 (.take 11 (.take 12 (.take 13 .nil)))))))))))))) 9999 (by kernel_rfl) (by kernel_rfl) (by kernel_rfl) (by kernel_rfl) (by kernel_rfl) (fun _ _ d _ _ h => by cases d <;> exact h) ?_ (fun hHeld => ?_); (focus (exact (Below.refl _ _).drew)); simp only [Tree.map, List.getElem?_toArray, List.getElem?_cons_zero, List.getElem?_cons_succ]
      refine wpTree.one (fun K hK => ?_)
      go_simp
      go_at_call 4
      refine (alive23_any _).mono ?_
      rintro e y1 ⟨rfl, hby1⟩
      have hBelow := Below.trans hHeld (hby1.mono (Below.size hHeld))
      refine hK.out _ _ hBelow (fun hHeld' => ?_)
      clear hK K hHeld hby1 hBelow
      have hHeld := hHeld'
      clear hHeld'
      (try simp only [Act.put, List.setIfInBounds_toArray, List.set_cons_zero, List.set_cons_succ])
      (repeat (first | (refine wpTree.take (v := undef) (Or.inr ⟨by rfl, rfl⟩) ?_; simp only [Act.put, List.setIfInBounds_toArray, List.set_cons_zero, List.set_cons_succ]) | (refine wpTree.take (v := .string (bstr E)) (Or.inl ⟨by rfl, ?_⟩) ?_; (focus (intro wq hS; have cvq := (HA.out.next hS).conv HLT.out; go_simp; done)); simp only [Act.put, List.setIfInBounds_toArray, List.set_cons_zero, List.set_cons_succ]) | (refine wpTree.take (v := .agg (Ms.plain ?_).toArray) (yieldsIf_load_mid rfl 44 _ rfl _ _ rfl (Ms.plain _) _ ?_ Tryz.underlying44 rfl (rminfo _)) ?_; rotate_left; (focus (intro _ hS; refine range_next hS ?_; assumption)); simp only [Act.put, List.setIfInBounds_toArray, List.set_cons_zero, List.set_cons_succ]) | (refine wpTree.take (v := ?_) (Or.inl ⟨by rfl, ?_⟩) ?_; rotate_left; (focus (intro _ hS; (try dsimp only at hS); go_split_ands; (try subst hS); go_simp; (try (with_reducible rfl)); done)); simp only [Act.put, List.setIfInBounds_toArray, List.set_cons_zero, List.set_cons_succ])))
      refine wpTree.one (fun K hK => ?_)
      go_simp
      go_at_call 14
      refine (HWR.out _).mono ?_
      rintro e y2 ⟨v2, rfl, hM⟩
      have cv2 := (BytesAt.of hM.1).conv HLT.out
      have hBelow := Below.trans hHeld (hM.2.mono (Below.size hHeld))
      refine hK.out _ _ hBelow (fun hHeld' => ?_)
      clear hK K hHeld hBelow hM
      have hHeld := hHeld'
      clear hHeld'
      (try simp only [Act.put, List.setIfInBounds_toArray, List.set_cons_zero, List.set_cons_succ])
      refine wpTree.one (fun K hK => ?_)
      go_simp
      refine hK.out _ _ hHeld (fun _ => ?_)
      clear hK K
      (try simp only [Act.put, List.setIfInBounds_toArray, List.set_cons_zero, List.set_cons_succ])
      (repeat (first | (refine wpTree.take (v := undef) (Or.inr ⟨by rfl, rfl⟩) ?_; simp only [Act.put, List.setIfInBounds_toArray, List.set_cons_zero, List.set_cons_succ]) | (refine wpTree.take (v := ?_) (Or.inl ⟨by rfl, ?_⟩) ?_; rotate_left; (focus (intro _ hS; (try dsimp only at hS); go_split_ands; (try subst hS); go_simp; (try (with_reducible rfl)); done)); simp only [Act.put, List.setIfInBounds_toArray, List.set_cons_zero, List.set_cons_succ])))
      refine wpTree.done ?_
      clear rx cv2
      have HF := Lib.hid (H10.out.trans (hHeld.mono H10.out.size))
      clear hHeld
      go_wp2_with fail
      go_ret
      exact ⟨rfl, HF.out⟩
  · have HRB := Lib.hid hrb
    clear hrb
    go_wp2_with fail
    refine ((HRB.out _ Hw5.out.2).1).mono ?_
    rintro e w6 ⟨rfl, hb⟩
    have Hw6 := Lib.hid (show Below W.heap.size W w6 ∧ ByR w6 As sb from ⟨Hw5.out.1.trans (hb.mono Hw5.out.1.size), Hw5.out.2.next hb⟩)
    have HP6 := Lib.hid (HP5.out.next hb)
    have HQ6 := Lib.hid (HQ5.out.next hb)
    have HX6 := Lib.hid (HX5.out.next hb)
    have HWA6 := Lib.hid (HWA5.out.next hb)
    clear hb Hw5 HP5 HQ5 HX5 HWA5
    go_upto_region 6 with (refine wpList_store_blk rfl 55 _ _ rfl (w6).heap.size 55 zmsA mm.cells.toArray rfl rfl (Blk.new' rfl) (msinfoA _) (zms_siz _) (ms_one _) ?_; intro hy; have hbn : Below (w6).heap.size w6 (((w6).alloc (.cells zmsA 55)).setRow (w6).heap.size mm.cells.toArray) := below_setRow ((Below.refl _ _).alloc (Nat.le_refl _) _) (Nat.le_refl _) _; obtain ⟨w7, hnw⟩ : ∃ w7, w7 = (((w6).alloc (.cells zmsA 55)).setRow (w6).heap.size mm.cells.toArray) := ⟨_, rfl⟩; rw [← hnw] at hbn hy ⊢; clear hnw; skip)
    obtain ⟨g10, hg10⟩ : ∃ g10, g10 = w6.heap.size := ⟨_, rfl⟩
    rw [← hg10] at hy ⊢
    have HM7 := Lib.hid hy
    clear hg10 hy
    have Hw7 := Lib.hid (show Below W.heap.size W w7 ∧ ByR w7 As sb from ⟨Hw6.out.1.trans (hbn.mono Hw6.out.1.size), Hw6.out.2.next hbn⟩)
    have HP7 := Lib.hid (HP6.out.next hbn)
    have HQ7 := Lib.hid (HQ6.out.next hbn)
    have HX7 := Lib.hid (HX6.out.next hbn)
    have HWA7 := Lib.hid (HWA6.out.next hbn)
    clear hbn Hw6 HP6 HQ6 HX6 HWA6
    go_wp2_with fail
    refine ((HRB.out _ Hw7.out.2).2).mono ?_
    rintro e w8 ⟨rfl, hb⟩
    have Hw8 := Lib.hid (show Below W.heap.size W w8 ∧ ByR w8 As sb from ⟨Hw7.out.1.trans (hb.mono Hw7.out.1.size), Hw7.out.2.next hb⟩)
    have HP8 := Lib.hid (HP7.out.next hb)
    have HQ8 := Lib.hid (HQ7.out.next hb)
    have HX8 := Lib.hid (HX7.out.next hb)
    have HWA8 := Lib.hid (HWA7.out.next hb)
    have HM8 := Lib.hid (HM7.out.next hb)
    clear hb Hw7 HP7 HQ7 HX7 HWA7 HM7
    go_upto_region 7 with (refine wpList_store_blk rfl 44 _ _ rfl (w8).heap.size 44 zrmA (Ms.plain mm).toArray rfl rfl (Blk.new' rfl) (rminfoA _) (zrm_siz _) (pm_one _) ?_; intro hy; have hbn : Below (w8).heap.size w8 (((w8).alloc (.cells zrmA 44)).setRow (w8).heap.size (Ms.plain mm).toArray) := below_setRow ((Below.refl _ _).alloc (Nat.le_refl _) _) (Nat.le_refl _) _; obtain ⟨w9, hnw⟩ : ∃ w9, w9 = (((w8).alloc (.cells zrmA 44)).setRow (w8).heap.size (Ms.plain mm).toArray) := ⟨_, rfl⟩; rw [← hnw] at hbn hy ⊢; clear hnw)
    obtain ⟨g12, hg12⟩ : ∃ g12, g12 = w8.heap.size := ⟨_, rfl⟩
    rw [← hg12] at hy ⊢
    have HY9 := Lib.hid hy
    clear hg12 hy
    have Hw9 := Lib.hid (show Below W.heap.size W w9 ∧ ByR w9 As sb from ⟨Hw8.out.1.trans (hbn.mono Hw8.out.1.size), Hw8.out.2.next hbn⟩)
    have HP9 := Lib.hid (HP8.out.next hbn)
    have HQ9 := Lib.hid (HQ8.out.next hbn)
    have HX9 := Lib.hid (HX8.out.next hbn)
    have HWA9 := Lib.hid (HWA8.out.next hbn)
    have HM9 := Lib.hid (HM8.out.next hbn)
    clear hbn Hw8 HP8 HQ8 HX8 HWA8 HM8
    have HR1 := Lib.hid (right_any p)
    have HR2 := Lib.hid (rright23_any p (lt_bd HOP.out))
    have HS := Lib.hid (same_any p q)
    have eq1 := fun w => eq_rmsg p q w
    have eq2 := fun w => eq_rmsg mm mm w
    rw [show sameM mm mm = true from (sameM_iff _ _).2 rfl] at eq2
    obtain ⟨rm, hrm⟩ : ∃ rm, rm = rightM p := ⟨_, rfl⟩
    obtain ⟨sm, hsm⟩ : ∃ sm, sm = sameM p q := ⟨_, rfl⟩
    simp only [← hrm] at HR1 HR2
    simp only [← hsm] at HS eq1
    have HRM := Lib.hid hrm
    clear hrm hsm
    have r1 := HP9.out.range
    have r2 := HQ9.out.range
    have r3 := HX9.out.range
    have r4 := HM9.out.range
    have r5 := HY9.out.range
    refine wp_region_tree (S := (fun W' => Below (w9).heap.size w9 W')) (.take 0 (.take 3 (.one 1 (.one 2 (.one 4 (.take 5 (.take 6 (.take 7 (.take 9 (.take 12 (.take 13 (.one 8 (.one 10 (.one 11 (.one 14 (.take 15 (.take 16 (.take 17 (.take 18 (.take 19 (.take 21 (.one 20 (.take 22 (.take 23 (.take 24 (.take 25 (.take 26 (.take 27 (.take 28 (.take 29 (.take 30 (.take 31 (.take 32 (.take 33 (.take 34 (.take 35 (.take 36 (.take 37 .nil)))))))))))))))))))))))))))))))))))))) 9999 (by kernel_rfl) (by kernel_rfl) (by kernel_rfl) (by kernel_rfl) (by kernel_rfl) (fun _ _ d _ _ h => by cases d <;> exact h) ?_ (fun hHeld => ?_); (focus (exact (Below.refl _ _).drew)); simp only [Tree.map, List.getElem?_toArray, List.getElem?_cons_zero, List.getElem?_cons_succ]
    (repeat (first | (refine wpTree.take (v := undef) (Or.inr ⟨by rfl, rfl⟩) ?_; simp only [Act.put, List.setIfInBounds_toArray, List.set_cons_zero, List.set_cons_succ]) | (refine wpTree.take (v := .agg (Ms.plain ?_).toArray) (yieldsIf_load_mid rfl 35 _ rfl _ _ rfl (Ms.plain _) _ ?_ Tryz.underlying35 rfl (pminfo _)) ?_; rotate_left; (focus (intro _ hS; refine range_next hS ?_; assumption)); simp only [Act.put, List.setIfInBounds_toArray, List.set_cons_zero, List.set_cons_succ]) | (refine wpTree.take (v := .agg (Ms.plain ?_).toArray) (yieldsIf_load_mid rfl 44 _ rfl _ _ rfl (Ms.plain _) _ ?_ Tryz.underlying44 rfl (rminfo _)) ?_; rotate_left; (focus (intro _ hS; refine range_next hS ?_; assumption)); simp only [Act.put, List.setIfInBounds_toArray, List.set_cons_zero, List.set_cons_succ]) | (refine wpTree.take (v := .agg (Ms.cells ?_).toArray) (yieldsIf_load_mid rfl 55 _ rfl _ _ rfl (Ms.cells _) _ ?_ Tryz.underlying55 rfl (msinfo _)) ?_; rotate_left; (focus (intro _ hS; refine range_next hS ?_; assumption)); simp only [Act.put, List.setIfInBounds_toArray, List.set_cons_zero, List.set_cons_succ]) | (refine wpTree.take (v := ?_) (Or.inl ⟨by rfl, ?_⟩) ?_; rotate_left; (focus (intro _ hS; (try dsimp only at hS); go_split_ands; (try subst hS); go_simp; (try (with_reducible rfl)); done)); simp only [Act.put, List.setIfInBounds_toArray, List.set_cons_zero, List.set_cons_succ])))
    refine wpTree.one (fun K hK => ?_)
    go_simp
    go_at_call 7
    refine (plainmsg_any p _).mono ?_
    rintro e u1 ⟨rfl, hbu1⟩
    have hBelow := Below.trans hHeld (hbu1.mono (Below.size hHeld))
    refine hK.out _ _ hBelow (fun hHeld' => ?_)
    clear hK K hHeld hbu1 hBelow
    have hHeld := hHeld'
    clear hHeld'
    refine wpTree.one (fun K hK => ?_)
    go_simp
    go_at_call 10
    refine (HR1.out _).mono ?_
    rintro e u2 ⟨rfl, hbu2⟩
    have hBelow := Below.trans hHeld (hbu2.mono (Below.size hHeld))
    refine hK.out _ _ hBelow (fun hHeld' => ?_)
    clear hK K hHeld hbu2 hBelow
    have hHeld := hHeld'
    clear hHeld'
    (repeat (first | (refine wpTree.take (v := undef) (Or.inr ⟨by rfl, rfl⟩) ?_; simp only [Act.put, List.setIfInBounds_toArray, List.set_cons_zero, List.set_cons_succ]) | (refine wpTree.take (v := .agg (Ms.plain ?_).toArray) (yieldsIf_load_mid rfl 35 _ rfl _ _ rfl (Ms.plain _) _ ?_ Tryz.underlying35 rfl (pminfo _)) ?_; rotate_left; (focus (intro _ hS; refine range_next hS ?_; assumption)); simp only [Act.put, List.setIfInBounds_toArray, List.set_cons_zero, List.set_cons_succ]) | (refine wpTree.take (v := .agg (Ms.plain ?_).toArray) (yieldsIf_load_mid rfl 44 _ rfl _ _ rfl (Ms.plain _) _ ?_ Tryz.underlying44 rfl (rminfo _)) ?_; rotate_left; (focus (intro _ hS; refine range_next hS ?_; assumption)); simp only [Act.put, List.setIfInBounds_toArray, List.set_cons_zero, List.set_cons_succ]) | (refine wpTree.take (v := .agg (Ms.cells ?_).toArray) (yieldsIf_load_mid rfl 55 _ rfl _ _ rfl (Ms.cells _) _ ?_ Tryz.underlying55 rfl (msinfo _)) ?_; rotate_left; (focus (intro _ hS; refine range_next hS ?_; assumption)); simp only [Act.put, List.setIfInBounds_toArray, List.set_cons_zero, List.set_cons_succ]) | (refine wpTree.take (v := ?_) (Or.inl ⟨by rfl, ?_⟩) ?_; rotate_left; (focus (intro _ hS; (try dsimp only at hS); go_split_ands; (try subst hS); go_simp; (try (with_reducible rfl)); done)); simp only [Act.put, List.setIfInBounds_toArray, List.set_cons_zero, List.set_cons_succ])))
    refine wpTree.one (fun K hK => ?_)
    go_simp
    go_at_call 11
    refine (HR2.out _).mono ?_
    rintro e u3 ⟨rfl, hbu3⟩
    have hBelow := Below.trans hHeld (hbu3.mono (Below.size hHeld))
    refine hK.out _ _ hBelow (fun hHeld' => ?_)
    clear hK K hHeld hbu3 hBelow
    have hHeld := hHeld'
    clear hHeld'
    (repeat (first | (refine wpTree.take (v := undef) (Or.inr ⟨by rfl, rfl⟩) ?_; simp only [Act.put, List.setIfInBounds_toArray, List.set_cons_zero, List.set_cons_succ]) | (refine wpTree.take (v := .agg (Ms.plain ?_).toArray) (yieldsIf_load_mid rfl 35 _ rfl _ _ rfl (Ms.plain _) _ ?_ Tryz.underlying35 rfl (pminfo _)) ?_; rotate_left; (focus (intro _ hS; refine range_next hS ?_; assumption)); simp only [Act.put, List.setIfInBounds_toArray, List.set_cons_zero, List.set_cons_succ]) | (refine wpTree.take (v := .agg (Ms.plain ?_).toArray) (yieldsIf_load_mid rfl 44 _ rfl _ _ rfl (Ms.plain _) _ ?_ Tryz.underlying44 rfl (rminfo _)) ?_; rotate_left; (focus (intro _ hS; refine range_next hS ?_; assumption)); simp only [Act.put, List.setIfInBounds_toArray, List.set_cons_zero, List.set_cons_succ]) | (refine wpTree.take (v := .agg (Ms.cells ?_).toArray) (yieldsIf_load_mid rfl 55 _ rfl _ _ rfl (Ms.cells _) _ ?_ Tryz.underlying55 rfl (msinfo _)) ?_; rotate_left; (focus (intro _ hS; refine range_next hS ?_; assumption)); simp only [Act.put, List.setIfInBounds_toArray, List.set_cons_zero, List.set_cons_succ]) | (refine wpTree.take (v := ?_) (Or.inl ⟨by rfl, ?_⟩) ?_; rotate_left; (focus (intro _ hS; (try dsimp only at hS); go_split_ands; (try subst hS); go_simp; (try (with_reducible rfl)); done)); simp only [Act.put, List.setIfInBounds_toArray, List.set_cons_zero, List.set_cons_succ])))
    refine wpTree.one (fun K hK => ?_)
    go_simp
    go_at_call 7
    refine (plainmsg_any p _).mono ?_
    rintro e u4 ⟨rfl, hbu4⟩
    have hBelow := Below.trans hHeld (hbu4.mono (Below.size hHeld))
    refine hK.out _ _ hBelow (fun hHeld' => ?_)
    clear hK K hHeld hbu4 hBelow
    have hHeld := hHeld'
    clear hHeld'
    (repeat (first | (refine wpTree.take (v := undef) (Or.inr ⟨by rfl, rfl⟩) ?_; simp only [Act.put, List.setIfInBounds_toArray, List.set_cons_zero, List.set_cons_succ]) | (refine wpTree.take (v := .agg (Ms.plain ?_).toArray) (yieldsIf_load_mid rfl 35 _ rfl _ _ rfl (Ms.plain _) _ ?_ Tryz.underlying35 rfl (pminfo _)) ?_; rotate_left; (focus (intro _ hS; refine range_next hS ?_; assumption)); simp only [Act.put, List.setIfInBounds_toArray, List.set_cons_zero, List.set_cons_succ]) | (refine wpTree.take (v := .agg (Ms.plain ?_).toArray) (yieldsIf_load_mid rfl 44 _ rfl _ _ rfl (Ms.plain _) _ ?_ Tryz.underlying44 rfl (rminfo _)) ?_; rotate_left; (focus (intro _ hS; refine range_next hS ?_; assumption)); simp only [Act.put, List.setIfInBounds_toArray, List.set_cons_zero, List.set_cons_succ]) | (refine wpTree.take (v := .agg (Ms.cells ?_).toArray) (yieldsIf_load_mid rfl 55 _ rfl _ _ rfl (Ms.cells _) _ ?_ Tryz.underlying55 rfl (msinfo _)) ?_; rotate_left; (focus (intro _ hS; refine range_next hS ?_; assumption)); simp only [Act.put, List.setIfInBounds_toArray, List.set_cons_zero, List.set_cons_succ]) | (refine wpTree.take (v := ?_) (Or.inl ⟨by rfl, ?_⟩) ?_; rotate_left; (focus (intro _ hS; (try dsimp only at hS); go_split_ands; (try subst hS); go_simp; (try (with_reducible rfl)); done)); simp only [Act.put, List.setIfInBounds_toArray, List.set_cons_zero, List.set_cons_succ])))
    refine wpTree.one (fun K hK => ?_)
    go_simp
    go_at_call 7
    refine (plainmsg_any q _).mono ?_
    rintro e u5 ⟨rfl, hbu5⟩
    have hBelow := Below.trans hHeld (hbu5.mono (Below.size hHeld))
    refine hK.out _ _ hBelow (fun hHeld' => ?_)
    clear hK K hHeld hbu5 hBelow
    have hHeld := hHeld'
    clear hHeld'
    refine wpTree.one (fun K hK => ?_)
    go_simp
    go_at_call 12
    refine (HS.out _).mono ?_
    rintro e u6 ⟨rfl, hbu6⟩
    have hBelow := Below.trans hHeld (hbu6.mono (Below.size hHeld))
    refine hK.out _ _ hBelow (fun hHeld' => ?_)
    clear hK K hHeld hbu6 hBelow
    have hHeld := hHeld'
    clear hHeld'
    refine wpTree.one (fun K hK => ?_)
    go_simp
    go_at_call 5
    refine (as23_any q _).mono ?_
    rintro e u7 ⟨rfl, hbu7⟩
    have hBelow := Below.trans hHeld (hbu7.mono (Below.size hHeld))
    refine hK.out _ _ hBelow (fun hHeld' => ?_)
    clear hK K hHeld hbu7 hBelow
    have hHeld := hHeld'
    clear hHeld'
    (repeat (first | (refine wpTree.take (v := undef) (Or.inr ⟨by rfl, rfl⟩) ?_; simp only [Act.put, List.setIfInBounds_toArray, List.set_cons_zero, List.set_cons_succ]) | (refine wpTree.take (v := .agg (Ms.plain ?_).toArray) (yieldsIf_load_mid rfl 35 _ rfl _ _ rfl (Ms.plain _) _ ?_ Tryz.underlying35 rfl (pminfo _)) ?_; rotate_left; (focus (intro _ hS; refine range_next hS ?_; assumption)); simp only [Act.put, List.setIfInBounds_toArray, List.set_cons_zero, List.set_cons_succ]) | (refine wpTree.take (v := .agg (Ms.plain ?_).toArray) (yieldsIf_load_mid rfl 44 _ rfl _ _ rfl (Ms.plain _) _ ?_ Tryz.underlying44 rfl (rminfo _)) ?_; rotate_left; (focus (intro _ hS; refine range_next hS ?_; assumption)); simp only [Act.put, List.setIfInBounds_toArray, List.set_cons_zero, List.set_cons_succ]) | (refine wpTree.take (v := .agg (Ms.cells ?_).toArray) (yieldsIf_load_mid rfl 55 _ rfl _ _ rfl (Ms.cells _) _ ?_ Tryz.underlying55 rfl (msinfo _)) ?_; rotate_left; (focus (intro _ hS; refine range_next hS ?_; assumption)); simp only [Act.put, List.setIfInBounds_toArray, List.set_cons_zero, List.set_cons_succ]) | (refine wpTree.take (v := ?_) (Or.inl ⟨by rfl, ?_⟩) ?_; rotate_left; (focus (intro _ hS; (try dsimp only at hS); go_split_ands; (try subst hS); go_simp; (try (with_reducible rfl)); done)); simp only [Act.put, List.setIfInBounds_toArray, List.set_cons_zero, List.set_cons_succ])))
    refine wpTree.one (fun K hK => ?_)
    go_simp
    go_at_call 13
    refine (of23_any mm _).mono ?_
    rintro e u8 ⟨rfl, hbu8⟩
    have hBelow := Below.trans hHeld (hbu8.mono (Below.size hHeld))
    refine hK.out _ _ hBelow (fun hHeld' => ?_)
    clear hK K hHeld hbu8 hBelow
    have hHeld := hHeld'
    clear hHeld'
    (repeat (first | (refine wpTree.take (v := undef) (Or.inr ⟨by rfl, rfl⟩) ?_; simp only [Act.put, List.setIfInBounds_toArray, List.set_cons_zero, List.set_cons_succ]) | (refine wpTree.take (v := .agg (Ms.plain ?_).toArray) (yieldsIf_load_mid rfl 35 _ rfl _ _ rfl (Ms.plain _) _ ?_ Tryz.underlying35 rfl (pminfo _)) ?_; rotate_left; (focus (intro _ hS; refine range_next hS ?_; assumption)); simp only [Act.put, List.setIfInBounds_toArray, List.set_cons_zero, List.set_cons_succ]) | (refine wpTree.take (v := .agg (Ms.plain ?_).toArray) (yieldsIf_load_mid rfl 44 _ rfl _ _ rfl (Ms.plain _) _ ?_ Tryz.underlying44 rfl (rminfo _)) ?_; rotate_left; (focus (intro _ hS; refine range_next hS ?_; assumption)); simp only [Act.put, List.setIfInBounds_toArray, List.set_cons_zero, List.set_cons_succ]) | (refine wpTree.take (v := .agg (Ms.cells ?_).toArray) (yieldsIf_load_mid rfl 55 _ rfl _ _ rfl (Ms.cells _) _ ?_ Tryz.underlying55 rfl (msinfo _)) ?_; rotate_left; (focus (intro _ hS; refine range_next hS ?_; assumption)); simp only [Act.put, List.setIfInBounds_toArray, List.set_cons_zero, List.set_cons_succ]) | (refine wpTree.take (v := ?_) (Or.inl ⟨by rfl, ?_⟩) ?_; rotate_left; (focus (intro _ hS; (try dsimp only at hS); go_split_ands; (try subst hS); go_simp; (try (with_reducible rfl)); done)); simp only [Act.put, List.setIfInBounds_toArray, List.set_cons_zero, List.set_cons_succ])))
    refine wpTree.done ?_
    have Hu := Lib.hid (show Below W.heap.size W u8 from Hw9.out.1.trans (hHeld.mono Hw9.out.1.size))
    have HXu := Lib.hid (HX9.out.next hHeld)
    have HWAu := Lib.hid (HWA9.out.next hHeld)
    clear hHeld r1 r2 r3 r4 r5 eq1 eq2 HP9 HQ9 HX9 HM9 HY9 HWA9 HS HR1 Hw9 HRB
    have rx := HXu.out.range
    go_wp2_with (first | (refine wpList_load_midg (by rfl) 44 _ rfl _ _ rfl (Ms.plain ?_) _ ?_ Tryz.underlying44 rfl (rminfo _) ?_; rotate_left; (focus assumption)))
    clear rx
    cases rm with
    | false =>
      obtain ⟨rfl, rfl⟩ := HWAu.out.no HRM.out.symm
      clear HWAu
      refine (HR2.out _).mono ?_
      rintro e w10 ⟨rfl, hb⟩
      have H10 := Lib.hid (Hu.out.trans (hb.mono Hu.out.size))
      clear hb HR2 Hu HXu
      go_wp2_with fail
      refine (alive23_any _).mono ?_
      rintro e w11 ⟨rfl, hb⟩
      have H11 := Lib.hid (H10.out.trans (hb.mono H10.out.size))
      clear hb
      go_wp2_with fail
      go_ret
      exact ⟨rfl, H11.out⟩
    | true =>
      obtain ⟨rfl, hva⟩ := HWAu.out.yes HRM.out.symm
      refine (HR2.out _).mono ?_
      rintro e w10 ⟨rfl, hb⟩
      have H10 := Lib.hid (Hu.out.trans (hb.mono Hu.out.size))
      have HX10 := Lib.hid (HXu.out.next hb)
      have HA := Lib.hid (hva.next hb)
      have HWR := Lib.hid (fun w => rwrite23_any p HOP.out HRM.out.symm w)
      have HLT := Lib.hid (encM_lt p)
      obtain ⟨E, hE⟩ : ∃ E, E = encM p := ⟨_, rfl⟩
      simp only [← hE] at HA HWR HLT
      clear hb hva HR2 Hu HXu HWAu hE
      go_upto_region 11 with fail
      have rx := HX10.out.range
      refine wp_region_tree (S := (fun w => Below w10.heap.size w10 w)) (.one 0 (.take 1 (.take 2 (.take 3 (.take 4 (.take 5 (.take 6 (.take 7 (.take 8 (.one 9 (.one 10 (.take 11 (.take 12 (.take 13 .nil)))))))))))))) 9999 (by kernel_rfl) (by kernel_rfl) (by kernel_rfl) (by kernel_rfl) (by kernel_rfl) (fun _ _ d _ _ h => by cases d <;> exact h) ?_ (fun hHeld => ?_); (focus (exact (Below.refl _ _).drew)); simp only [Tree.map, List.getElem?_toArray, List.getElem?_cons_zero, List.getElem?_cons_succ]
      refine wpTree.one (fun K hK => ?_)
      go_simp
      go_at_call 4
      refine (alive23_any _).mono ?_
      rintro e y1 ⟨rfl, hby1⟩
      have hBelow := Below.trans hHeld (hby1.mono (Below.size hHeld))
      refine hK.out _ _ hBelow (fun hHeld' => ?_)
      clear hK K hHeld hby1 hBelow
      have hHeld := hHeld'
      clear hHeld'
      (try simp only [Act.put, List.setIfInBounds_toArray, List.set_cons_zero, List.set_cons_succ])
      (repeat (first | (refine wpTree.take (v := undef) (Or.inr ⟨by rfl, rfl⟩) ?_; simp only [Act.put, List.setIfInBounds_toArray, List.set_cons_zero, List.set_cons_succ]) | (refine wpTree.take (v := .string (bstr E)) (Or.inl ⟨by rfl, ?_⟩) ?_; (focus (intro wq hS; have cvq := (HA.out.next hS).conv HLT.out; go_simp; done)); simp only [Act.put, List.setIfInBounds_toArray, List.set_cons_zero, List.set_cons_succ]) | (refine wpTree.take (v := .agg (Ms.plain ?_).toArray) (yieldsIf_load_mid rfl 44 _ rfl _ _ rfl (Ms.plain _) _ ?_ Tryz.underlying44 rfl (rminfo _)) ?_; rotate_left; (focus (intro _ hS; refine range_next hS ?_; assumption)); simp only [Act.put, List.setIfInBounds_toArray, List.set_cons_zero, List.set_cons_succ]) | (refine wpTree.take (v := ?_) (Or.inl ⟨by rfl, ?_⟩) ?_; rotate_left; (focus (intro _ hS; (try dsimp only at hS); go_split_ands; (try subst hS); go_simp; (try (with_reducible rfl)); done)); simp only [Act.put, List.setIfInBounds_toArray, List.set_cons_zero, List.set_cons_succ])))
      refine wpTree.one (fun K hK => ?_)
      go_simp
      go_at_call 14
      refine (HWR.out _).mono ?_
      rintro e y2 ⟨v2, rfl, hM⟩
      have cv2 := (BytesAt.of hM.1).conv HLT.out
      have hBelow := Below.trans hHeld (hM.2.mono (Below.size hHeld))
      refine hK.out _ _ hBelow (fun hHeld' => ?_)
      clear hK K hHeld hBelow hM
      have hHeld := hHeld'
      clear hHeld'
      (try simp only [Act.put, List.setIfInBounds_toArray, List.set_cons_zero, List.set_cons_succ])
      refine wpTree.one (fun K hK => ?_)
      go_simp
      refine hK.out _ _ hHeld (fun _ => ?_)
      clear hK K
      (try simp only [Act.put, List.setIfInBounds_toArray, List.set_cons_zero, List.set_cons_succ])
      (repeat (first | (refine wpTree.take (v := undef) (Or.inr ⟨by rfl, rfl⟩) ?_; simp only [Act.put, List.setIfInBounds_toArray, List.set_cons_zero, List.set_cons_succ]) | (refine wpTree.take (v := ?_) (Or.inl ⟨by rfl, ?_⟩) ?_; rotate_left; (focus (intro _ hS; (try dsimp only at hS); go_split_ands; (try subst hS); go_simp; (try (with_reducible rfl)); done)); simp only [Act.put, List.setIfInBounds_toArray, List.set_cons_zero, List.set_cons_succ])))
      refine wpTree.done ?_
      clear rx cv2
      have HF := Lib.hid (H10.out.trans (hHeld.mono H10.out.size))
      clear hHeld
      go_wp2_with fail
      go_ret
      exact ⟨rfl, HF.out⟩
end Mg
open Mg

set_option maxRecDepth 100000 in
theorem msgtells_lifted (os : Os) (started : os.Started) (H : Type) (enc : TypeId × Value → H) :
    ReturnsInHanded {} Tryz.checked os 3 .any (Rows.msgTellsSpec.pre6 enc Tryz.prog Tryz.f3 Rows.msgTellsRow.domain false) (Rows.msgTellsSpec.post enc Tryz.prog Tryz.f3 false true false false) := by
  refine law_lift (C := Tryz.checked) own_knob started (by kernel_rfl) Tryz.func3 rfl Tryz.underlying4 laid_out (by kernel_rfl) rfl ?_
    (ChangeSpec.witness6 (enc := enc) (C := Tryz.checked) false ⟨#[], #[.agg #[.int .i64 0, .int .i64 0, .int .i64 0, .int .i64 0, .int .i64 0, .int .u64 0, .int .i64 0, .int .u32 0, .int .i64 0, .int .i64 0, .int .u32 0, .int .u32 0, .int .u32 0, .int .u32 0, .int .u32 0, .int .u32 0, .int .u32 0, .int .u32 0, .int .u32 0, .int .u32 0, .int .u32 0, .int .u32 0, .int .u64 0, .int .i64 0, .int .u32 0, .int .i64 0, .int .i64 0, .int .u32 0, .int .u32 0, .int .u32 0, .int .u32 0, .int .u32 0, .int .u32 0, .int .u32 0, .int .u32 0, .int .u32 0, .int .u32 0, .int .u32 0, .int .u32 0, .int .i64 0, .int .i64 0, .int .i64 0, .int .u64 0, .bool false, .int .u64 0, .int .u32 0, .int .u32 0, .int .u32 0, .int .u32 0, .int .u32 0, .int .u32 0, .int .u32 0, .int .u32 0, .int .u32 0, .int .u32 0, .int .u32 0, .int .u32 0], .agg #[.int .i64 0, .int .i64 0, .int .i64 0, .int .i64 0, .int .i64 0, .int .u64 0, .int .i64 0, .int .u32 0, .int .i64 0, .int .i64 0, .int .u32 0, .int .u32 0, .int .u32 0, .int .u32 0, .int .u32 0, .int .u32 0, .int .u32 0, .int .u32 0, .int .u32 0, .int .u32 0, .int .u32 0, .int .u32 0, .int .u64 0, .int .i64 0, .int .u32 0, .int .i64 0, .int .i64 0, .int .u32 0, .int .u32 0, .int .u32 0, .int .u32 0, .int .u32 0, .int .u32 0, .int .u32 0, .int .u32 0, .int .u32 0, .int .u32 0, .int .u32 0, .int .u32 0, .int .i64 0, .int .i64 0, .int .i64 0, .int .u64 0, .bool false, .int .u64 0, .int .u32 0, .int .u32 0, .int .u32 0, .int .u32 0, .int .u32 0, .int .u32 0, .int .u32 0, .int .u32 0, .int .u32 0, .int .u32 0, .int .u32 0, .int .u32 0], .slice none 0 0], []⟩ 8 (by kernel_rfl) (by kernel_rfl) (by kernel_rfl) (by kernel_rfl)) ?_
  · intro ds hds
    match ds, hds with
    | [_, _, _], _ => rfl
  intro W base args ds ps hval hA hlt hsz
  rw [Tryz.params3] at hA hval
  obtain ⟨v0, vs0, d0, ds0, p0, q0, hargs, rfl, rfl, h0, r0⟩ := trodAll_cons hA
  obtain ⟨v1, vs1, d1, ds1, p1, q1, rfl, rfl, rfl, h1, r1⟩ := trodAll_cons r0
  obtain ⟨v2, vs2, d2, ds2, p2, q2, rfl, rfl, rfl, h2, r2⟩ := trodAll_cons r1
  obtain ⟨rfl, rfl, rfl⟩ := trodAll_nil r2
  obtain rfl : args = #[v0, v1, v2] := by cases args; simp_all
  obtain ⟨p, rfl, hp⟩ := open_pm (hval 0 35 v0 rfl rfl) h0
  obtain ⟨q, rfl, hq⟩ := open_pm (hval 1 35 v1 rfl rfl) h1
  obtain ⟨As, n, cs, sb, rfl, hn, hnc, _, hb256, hby, hnone⟩ := open_bytes (hval 2 36 v2 rfl rfl) h2 (fun x hx => hlt x (by simp [hx]))
  exact tells_walk p q hp hq As n cs sb W hn hnc hb256 hby

theorem msgtells_holds : Rows.MsgTellsSaid :=
  OpenClaim.holds_of_wide 3 Tryz.f3 rfl rfl rfl rfl rfl rfl rfl ⟨rfl, rfl, rfl, rfl, rfl⟩ rfl rfl rfl rfl rfl (by kernel_rfl) Tryz.func3 (by kernel_rfl)
    (of_decide_eq_true (by kernel_rfl)) (by unfold Func.isWrapper; first | (rw [if_pos (by decide +kernel)]; kernel_rfl) | (rw [if_neg (by decide +kernel)]; exact ⟨rfl, rfl⟩))
    (fun os started H enc _ => msgtells_lifted os started H enc)


end Go.Proofs.YtkigaclcmodjaaaGreat

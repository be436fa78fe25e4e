/-
input: put, Write.
input: what is read; getPacket.
-/
import Derived.Test.YtgnfachjobohoaaGreatIn3
namespace Go.Proofs.YtgnfachjobohoaaGreat
open Go.RowKit
set_option linter.unusedSimpArgs false
set_option linter.unusedVariables false
namespace In
structure Iv.Ok (m : Iv) : Prop where
  f : ∀ i, m.f i < 4294967296
  t : m.t < 18446744073709551616
  p : m.o.p < 18446744073709551616
/-- An input's bytes. -/
def encI (m : Iv) : List Nat := enc (wordN m.k) ++ ((if hC m.k then enc (wordN m.ca) else []) ++ ((if hS m.k then enc (wordN m.se) else []) ++ ((if hN m.k then enc (wordN m.no) else []) ++ ((if hC m.k then encV m.f ++ enc m.t else []) ++ ((if hO m.k then encO m.o else []) ++ (if hP m.k then enc (Pk.encP m.x.p).length ++ Pk.encP m.x.p else []))))))
theorem body_of {m : Iv} (h : rightI m = true) : bodyI m = true := by unfold rightI at h; simp only [Bool.and_eq_true] at h; exact h.2
theorem body_op {m : Iv} (h : rightI m = true) (h4 : hO m.k = true) : mayO m.o = true := by
  have := body_of h
  unfold bodyI at this
  rw [h4] at this
  cases hm : mayO m.o with
  | true => rfl
  | false => rw [hm] at this; simp at this
theorem body_pk {m : Iv} (h : rightI m = true) (h5 : hP m.k = true) : Pk.rightB m.x.p = true := by
  have := body_of h
  unfold bodyI at this
  rw [h5] at this
  cases hm : Pk.rightB m.x.p with
  | true => rfl
  | false => rw [hm] at this; simp at this
theorem encP_len {p : Pk.Pt} (h : Pk.Rt p) (h256 : ∀ y ∈ p.bs, y < 256) : (Pk.encP p).length ≤ 2010 := by
  unfold Pk.encP
  have := Pk.encB_len h
  have := Crc.sum_lt (Pk.encB_256 h256)
  have := enc_len (Crc.sum (Pk.encB p)) (by omega)
  rw [List.length_append]; omega
theorem src_keep {W w w' : World} {B : Nat} {E P : List Nat} {A : Option Addr} {c : Nat} (ho : w.ownsRow W.heap.size 5 1 (.slice A P.length c) P.length (u8s P)) (hb : Below W.heap.size W w) (hW : Wtr W B B E) (hO : Wrote B B w w') : Src w' A P.length (u8s P) := by
  have hBW := hW.lt
  have hrow : rowOf w B = rowOf W B := by unfold rowOf; rw [hb.cell (p := ⟨B, 0, none⟩) hBW]
  have hown : w'.ownsRow W.heap.size 5 1 (.slice A P.length c) P.length (u8s P) := by
    obtain ⟨hl, h | ⟨k, cap, cur, e, hk, hh, r⟩⟩ := id ho
    · exact ⟨hl, Or.inl h⟩
    · have hlt := (ho.lt k (by rw [e]; rfl)).2
      refine ⟨hl, Or.inr ⟨k, cap, cur, e, hk, (hO.2.1 k hlt (by omega) (fun e2 => ?_)).trans hh, r⟩⟩
      rw [hrow] at e2
      have := rowOf_lt hW e2.symm
      omega
  obtain ⟨A2, c2, he, hs⟩ := src_own hown
  simp only [Value.slice.injEq] at he
  rw [he.1]; exact hs
set_option maxRecDepth 20000 in
set_option maxHeartbeats 8000000 in
theorem put_sel (m : Iv) (W : World) (hr : rightI m = true) (ho : m.Ok) (hxo : m.x.Ok W) (h1 : hC m.k = false) (h2 : hS m.k = true) (h3 : hN m.k = false) (h4 : hO m.k = false) (h5 : hP m.k = false) : Calls Tryz.prog 18 #[.agg m.cells.toArray] W fun e W' => ∃ v, e = .returned v ∧ W'.ownsRow W.heap.size 5 1 v (encI m).length (u8s (encI m)) ∧ Below W.heap.size W W' := by
  have bA := Blk.new W 48 m.cells.toArray
  have hB0 := (Below.refl W.heap.size W).alloc (Nat.le_refl _) (.cells m.cells.toArray 48)
  obtain ⟨W1, hw1⟩ : ∃ W1, W1 = W.alloc (.cells m.cells.toArray 48) := ⟨_, rfl⟩
  rw [← hw1] at bA hB0
  have HW1 := Lib.hid hw1
  have HX1 := Lib.hid bA
  have HB1 := Lib.hid hB0
  have HO := Lib.hid ho
  have HXO := Lib.hid hxo
  have HRR := Lib.hid hr
  have HEN := Lib.hid (show encI m = enc (wordN m.k) ++ enc (wordN m.se) by unfold encI; rw [h1, h2, h3, h4, h5]; simp)
  have wk := wrap_word m.k
  have hlt1 := bA.lt
  have c0 := (iv_all bA).2.2.2.2.1
  clear bA ho hB0 hw1 hr hxo
  go_enter Tryz.func18, Tryz.ntmps18
  go_upto_region 1 with fail
  rw [← HW1.out]
  clear HW1
  refine wp_region_tree (S := (fun w' => w'.cell? ⟨W.heap.size, 0, none⟩ = some (.int .i64 m.k))) (.take 1 (.take 2 (.take 3 (.one 0 (.one 4 (.take 5 .nil)))))) 9999 (by kernel_rfl) (by kernel_rfl) (by kernel_rfl) (by kernel_rfl) (by kernel_rfl) (fun _ _ d _ _ h => by cases d <;> exact h) c0 (fun hHeld => ?_); simp only [Tree.map, List.getElem?_toArray, List.getElem?_cons_zero, List.getElem?_cons_succ]
  (repeat (first | (refine wpTree.take (v := undef) (Or.inr ⟨by rfl, rfl⟩) ?_; simp only [Act.put, List.setIfInBounds_toArray, List.set_cons_zero, List.set_cons_succ]) | (refine wpTree.take (v := ?_) (Or.inl ⟨by rfl, ?_⟩) ?_; rotate_left; (focus (intro _ hS; (try dsimp only at hS); go_split_ands; (try subst hS); go_simp; (try (with_reducible rfl)); done)); simp only [Act.put, List.setIfInBounds_toArray, List.set_cons_zero, List.set_cons_succ])))
  refine wpTree.one (fun K hK => ?_)
  go_simp
  go_at_call 50
  refine (new_any W1.drew).mono ?_
  rintro e w2 ⟨rfl, hw, hb⟩
  obtain ⟨B, hBe⟩ : ∃ B, B = W1.drew.heap.size := ⟨_, rfl⟩
  have hBl : W.heap.size < B := by rw [hBe]; exact hlt1
  have hb2 : Below W1.heap.size W1 w2 := (Below.refl _ _).drew.trans hb
  have HB2 := Lib.hid (HB1.out.trans (hb2.mono HB1.out.size))
  have HX2 := Lib.hid (HX1.out.next hb2)
  rw [← hBe] at hw ⊢
  have HW2 := Lib.hid hw
  have HBL := Lib.hid hBl
  have c02 := (iv_all HX2.out).2.2.2.2.1
  refine hK.out _ _ c02 (fun _ => ?_)
  clear hK K hHeld hw hb hb2 hBe hlt1 c0 hBl HX1 HB1
  (try simp only [Act.put, List.setIfInBounds_toArray, List.set_cons_zero, List.set_cons_succ])
  refine wpTree.one (fun K hK => ?_)
  go_simp
  go_at_call 51
  refine (wnum_any B B (wordN m.k) [] w2 HW2.out (wordN_lt _) (by decide)).mono ?_
  rintro e w3 ⟨rfl, hw, hr⟩
  have HBw3 := Lib.hid (HB2.out.trans (hr.1.mono (Nat.le_of_lt HBL.out)))
  have HXw3 := Lib.hid (blk_below HX2.out hr.1 HBL.out)
  obtain ⟨E3, hE3⟩ : ∃ E, E = enc (wordN m.k) := ⟨_, rfl⟩
  have HLw3 := Lib.hid (show E3.length ≤ 10 by rw [hE3]; exact enc_len _ (wordN_lt _))
  have HWw3 := Lib.hid (show Wtr w3 B B E3 by rw [hE3]; simpa using hw)
  have HE3 := Lib.hid hE3
  have c0 := (iv_all HXw3.out).2.2.2.2.1
  refine hK.out _ _ c0 (fun _ => ?_)
  clear hK K hw hr c02 HB2 HX2 HW2 wk hE3
  (try simp only [Act.put, List.setIfInBounds_toArray, List.set_cons_zero, List.set_cons_succ])
  (repeat (first | (refine wpTree.take (v := undef) (Or.inr ⟨by rfl, rfl⟩) ?_; simp only [Act.put, List.setIfInBounds_toArray, List.set_cons_zero, List.set_cons_succ]) | (refine wpTree.take (v := ?_) (Or.inl ⟨by rfl, ?_⟩) ?_; rotate_left; (focus (intro _ hS; (try dsimp only at hS); go_split_ands; (try subst hS); go_simp; (try (with_reducible rfl)); done)); simp only [Act.put, List.setIfInBounds_toArray, List.set_cons_zero, List.set_cons_succ])))
  refine wpTree.done ?_
  clear c0
  obtain ⟨-, rf, ro, rx, c0, c1, c2, c3, ct⟩ := iv_all HXw3.out
  clear rf ro rx c1 c3 ct
  have wv := wrap_word m.se
  go_upto_region 6 with (first | (go_at_call 31; refine (hascart_any _ _).mono ?_; rintro e wh ⟨rfl, rfl⟩; rw [h1]) | (go_at_call 33; refine (hasseller_any _ _).mono ?_; rintro e wh ⟨rfl, rfl⟩; rw [h2]) | (go_at_call 34; refine (hasnode_any _ _).mono ?_; rintro e wh ⟨rfl, rfl⟩; rw [h3]) | (go_at_call 35; refine (hasop_any _ _).mono ?_; rintro e wh ⟨rfl, rfl⟩; rw [h4]) | (go_at_call 37; refine (haspacket_any _ _).mono ?_; rintro e wh ⟨rfl, rfl⟩; rw [h5]) | (go_at_call 51; refine (wnum_any B B (wordN m.se) E3 _ HWw3.out (wordN_lt _) (by have := HLw3.out; omega)).mono ?_; rintro e w4 ⟨rfl, hw, hr⟩; have HBw4 := Lib.hid (HBw3.out.trans (hr.1.mono (Nat.le_of_lt HBL.out))); have HXw4 := Lib.hid (blk_below HXw3.out hr.1 HBL.out); obtain ⟨E4, hE⟩ : ∃ E, E = E3 ++ enc (wordN m.se) := ⟨_, rfl⟩; rw [← hE] at hw; have HWw4 := Lib.hid hw; have HLw4 := Lib.hid (show E4.length ≤ 20 from (by rw [hE, List.length_append]; have := HLw3.out; have := enc_len _ (wordN_lt m.se); omega)); have HE4 := Lib.hid hE; clear hw hr hE; clear c0 c2))
  clear wv HXw3 HBw3 HWw3 HLw3
  obtain ⟨-, rf, ro, rx, c0, c1, c2, c3, ct⟩ := iv_all HXw4.out
  clear rf ro rx c1 c2 c3 ct
  have hE : encI m = E4 := by rw [HEN.out, HE4.out, HE3.out]
  have HH := Lib.hid hE
  clear hE
  go_wp2_with (first | (go_at_call 31; refine (hascart_any _ _).mono ?_; rintro e wh ⟨rfl, rfl⟩; rw [h1]) | (go_at_call 33; refine (hasseller_any _ _).mono ?_; rintro e wh ⟨rfl, rfl⟩; rw [h2]) | (go_at_call 34; refine (hasnode_any _ _).mono ?_; rintro e wh ⟨rfl, rfl⟩; rw [h3]) | (go_at_call 35; refine (hasop_any _ _).mono ?_; rintro e wh ⟨rfl, rfl⟩; rw [h4]) | (go_at_call 37; refine (haspacket_any _ _).mono ?_; rintro e wh ⟨rfl, rfl⟩; rw [h5]) | (go_at_call 56; refine (bytes_any B B E4 _ HWw4.out (by have := HLw4.out; omega)).mono ?_; rintro e w9 ⟨v9, rfl, hown, hb⟩; have HB9 := Lib.hid (HBw4.out.trans (hb.mono HBw4.out.size)); have HO9 := Lib.hid hown; clear hown hb c0))
  go_ret
  exact ⟨v9, rfl, by rw [HH.out]; exact Pk.own_le HO9.out HBw4.out.size, HB9.out⟩
set_option maxRecDepth 20000 in
set_option maxHeartbeats 8000000 in
theorem put_joi (m : Iv) (W : World) (hr : rightI m = true) (ho : m.Ok) (hxo : m.x.Ok W) (h1 : hC m.k = false) (h2 : hS m.k = true) (h3 : hN m.k = true) (h4 : hO m.k = false) (h5 : hP m.k = false) : Calls Tryz.prog 18 #[.agg m.cells.toArray] W fun e W' => ∃ v, e = .returned v ∧ W'.ownsRow W.heap.size 5 1 v (encI m).length (u8s (encI m)) ∧ Below W.heap.size W W' := by
  have bA := Blk.new W 48 m.cells.toArray
  have hB0 := (Below.refl W.heap.size W).alloc (Nat.le_refl _) (.cells m.cells.toArray 48)
  obtain ⟨W1, hw1⟩ : ∃ W1, W1 = W.alloc (.cells m.cells.toArray 48) := ⟨_, rfl⟩
  rw [← hw1] at bA hB0
  have HW1 := Lib.hid hw1
  have HX1 := Lib.hid bA
  have HB1 := Lib.hid hB0
  have HO := Lib.hid ho
  have HXO := Lib.hid hxo
  have HRR := Lib.hid hr
  have HEN := Lib.hid (show encI m = enc (wordN m.k) ++ (enc (wordN m.se) ++ enc (wordN m.no)) by unfold encI; rw [h1, h2, h3, h4, h5]; simp)
  have wk := wrap_word m.k
  have hlt1 := bA.lt
  have c0 := (iv_all bA).2.2.2.2.1
  clear bA ho hB0 hw1 hr hxo
  go_enter Tryz.func18, Tryz.ntmps18
  go_upto_region 1 with fail
  rw [← HW1.out]
  clear HW1
  refine wp_region_tree (S := (fun w' => w'.cell? ⟨W.heap.size, 0, none⟩ = some (.int .i64 m.k))) (.take 1 (.take 2 (.take 3 (.one 0 (.one 4 (.take 5 .nil)))))) 9999 (by kernel_rfl) (by kernel_rfl) (by kernel_rfl) (by kernel_rfl) (by kernel_rfl) (fun _ _ d _ _ h => by cases d <;> exact h) c0 (fun hHeld => ?_); simp only [Tree.map, List.getElem?_toArray, List.getElem?_cons_zero, List.getElem?_cons_succ]
  (repeat (first | (refine wpTree.take (v := undef) (Or.inr ⟨by rfl, rfl⟩) ?_; simp only [Act.put, List.setIfInBounds_toArray, List.set_cons_zero, List.set_cons_succ]) | (refine wpTree.take (v := ?_) (Or.inl ⟨by rfl, ?_⟩) ?_; rotate_left; (focus (intro _ hS; (try dsimp only at hS); go_split_ands; (try subst hS); go_simp; (try (with_reducible rfl)); done)); simp only [Act.put, List.setIfInBounds_toArray, List.set_cons_zero, List.set_cons_succ])))
  refine wpTree.one (fun K hK => ?_)
  go_simp
  go_at_call 50
  refine (new_any W1.drew).mono ?_
  rintro e w2 ⟨rfl, hw, hb⟩
  obtain ⟨B, hBe⟩ : ∃ B, B = W1.drew.heap.size := ⟨_, rfl⟩
  have hBl : W.heap.size < B := by rw [hBe]; exact hlt1
  have hb2 : Below W1.heap.size W1 w2 := (Below.refl _ _).drew.trans hb
  have HB2 := Lib.hid (HB1.out.trans (hb2.mono HB1.out.size))
  have HX2 := Lib.hid (HX1.out.next hb2)
  rw [← hBe] at hw ⊢
  have HW2 := Lib.hid hw
  have HBL := Lib.hid hBl
  have c02 := (iv_all HX2.out).2.2.2.2.1
  refine hK.out _ _ c02 (fun _ => ?_)
  clear hK K hHeld hw hb hb2 hBe hlt1 c0 hBl HX1 HB1
  (try simp only [Act.put, List.setIfInBounds_toArray, List.set_cons_zero, List.set_cons_succ])
  refine wpTree.one (fun K hK => ?_)
  go_simp
  go_at_call 51
  refine (wnum_any B B (wordN m.k) [] w2 HW2.out (wordN_lt _) (by decide)).mono ?_
  rintro e w3 ⟨rfl, hw, hr⟩
  have HBw3 := Lib.hid (HB2.out.trans (hr.1.mono (Nat.le_of_lt HBL.out)))
  have HXw3 := Lib.hid (blk_below HX2.out hr.1 HBL.out)
  obtain ⟨E3, hE3⟩ : ∃ E, E = enc (wordN m.k) := ⟨_, rfl⟩
  have HLw3 := Lib.hid (show E3.length ≤ 10 by rw [hE3]; exact enc_len _ (wordN_lt _))
  have HWw3 := Lib.hid (show Wtr w3 B B E3 by rw [hE3]; simpa using hw)
  have HE3 := Lib.hid hE3
  have c0 := (iv_all HXw3.out).2.2.2.2.1
  refine hK.out _ _ c0 (fun _ => ?_)
  clear hK K hw hr c02 HB2 HX2 HW2 wk hE3
  (try simp only [Act.put, List.setIfInBounds_toArray, List.set_cons_zero, List.set_cons_succ])
  (repeat (first | (refine wpTree.take (v := undef) (Or.inr ⟨by rfl, rfl⟩) ?_; simp only [Act.put, List.setIfInBounds_toArray, List.set_cons_zero, List.set_cons_succ]) | (refine wpTree.take (v := ?_) (Or.inl ⟨by rfl, ?_⟩) ?_; rotate_left; (focus (intro _ hS; (try dsimp only at hS); go_split_ands; (try subst hS); go_simp; (try (with_reducible rfl)); done)); simp only [Act.put, List.setIfInBounds_toArray, List.set_cons_zero, List.set_cons_succ])))
  refine wpTree.done ?_
  clear c0
  obtain ⟨-, rf, ro, rx, c0, c1, c2, c3, ct⟩ := iv_all HXw3.out
  clear rf ro rx c1 c3 ct
  have wv := wrap_word m.se
  go_upto_region 6 with (first | (go_at_call 31; refine (hascart_any _ _).mono ?_; rintro e wh ⟨rfl, rfl⟩; rw [h1]) | (go_at_call 33; refine (hasseller_any _ _).mono ?_; rintro e wh ⟨rfl, rfl⟩; rw [h2]) | (go_at_call 34; refine (hasnode_any _ _).mono ?_; rintro e wh ⟨rfl, rfl⟩; rw [h3]) | (go_at_call 35; refine (hasop_any _ _).mono ?_; rintro e wh ⟨rfl, rfl⟩; rw [h4]) | (go_at_call 37; refine (haspacket_any _ _).mono ?_; rintro e wh ⟨rfl, rfl⟩; rw [h5]) | (go_at_call 51; refine (wnum_any B B (wordN m.se) E3 _ HWw3.out (wordN_lt _) (by have := HLw3.out; omega)).mono ?_; rintro e w4 ⟨rfl, hw, hr⟩; have HBw4 := Lib.hid (HBw3.out.trans (hr.1.mono (Nat.le_of_lt HBL.out))); have HXw4 := Lib.hid (blk_below HXw3.out hr.1 HBL.out); obtain ⟨E4, hE⟩ : ∃ E, E = E3 ++ enc (wordN m.se) := ⟨_, rfl⟩; rw [← hE] at hw; have HWw4 := Lib.hid hw; have HLw4 := Lib.hid (show E4.length ≤ 20 from (by rw [hE, List.length_append]; have := HLw3.out; have := enc_len _ (wordN_lt m.se); omega)); have HE4 := Lib.hid hE; clear hw hr hE; clear c0 c2))
  clear wv HXw3 HBw3 HWw3 HLw3
  obtain ⟨-, rf, ro, rx, c0, c1, c2, c3, ct⟩ := iv_all HXw4.out
  clear rf ro rx c1 c2 ct
  have wv := wrap_word m.no
  go_upto_region 8 with (first | (go_at_call 31; refine (hascart_any _ _).mono ?_; rintro e wh ⟨rfl, rfl⟩; rw [h1]) | (go_at_call 33; refine (hasseller_any _ _).mono ?_; rintro e wh ⟨rfl, rfl⟩; rw [h2]) | (go_at_call 34; refine (hasnode_any _ _).mono ?_; rintro e wh ⟨rfl, rfl⟩; rw [h3]) | (go_at_call 35; refine (hasop_any _ _).mono ?_; rintro e wh ⟨rfl, rfl⟩; rw [h4]) | (go_at_call 37; refine (haspacket_any _ _).mono ?_; rintro e wh ⟨rfl, rfl⟩; rw [h5]) | (go_at_call 51; refine (wnum_any B B (wordN m.no) E4 _ HWw4.out (wordN_lt _) (by have := HLw4.out; omega)).mono ?_; rintro e w5 ⟨rfl, hw, hr⟩; have HBw5 := Lib.hid (HBw4.out.trans (hr.1.mono (Nat.le_of_lt HBL.out))); have HXw5 := Lib.hid (blk_below HXw4.out hr.1 HBL.out); obtain ⟨E5, hE⟩ : ∃ E, E = E4 ++ enc (wordN m.no) := ⟨_, rfl⟩; rw [← hE] at hw; have HWw5 := Lib.hid hw; have HLw5 := Lib.hid (show E5.length ≤ 30 from (by rw [hE, List.length_append]; have := HLw4.out; have := enc_len _ (wordN_lt m.no); omega)); have HE5 := Lib.hid hE; clear hw hr hE; clear c0 c3))
  clear wv HXw4 HBw4 HWw4 HLw4
  obtain ⟨-, rf, ro, rx, c0, c1, c2, c3, ct⟩ := iv_all HXw5.out
  clear rf ro rx c1 c2 c3 ct
  have hE : encI m = E5 := by rw [HEN.out, HE5.out, HE4.out, HE3.out]; simp only [List.append_assoc]
  have HH := Lib.hid hE
  clear hE
  go_wp2_with (first | (go_at_call 31; refine (hascart_any _ _).mono ?_; rintro e wh ⟨rfl, rfl⟩; rw [h1]) | (go_at_call 33; refine (hasseller_any _ _).mono ?_; rintro e wh ⟨rfl, rfl⟩; rw [h2]) | (go_at_call 34; refine (hasnode_any _ _).mono ?_; rintro e wh ⟨rfl, rfl⟩; rw [h3]) | (go_at_call 35; refine (hasop_any _ _).mono ?_; rintro e wh ⟨rfl, rfl⟩; rw [h4]) | (go_at_call 37; refine (haspacket_any _ _).mono ?_; rintro e wh ⟨rfl, rfl⟩; rw [h5]) | (go_at_call 56; refine (bytes_any B B E5 _ HWw5.out (by have := HLw5.out; omega)).mono ?_; rintro e w9 ⟨v9, rfl, hown, hb⟩; have HB9 := Lib.hid (HBw5.out.trans (hb.mono HBw5.out.size)); have HO9 := Lib.hid hown; clear hown hb c0))
  go_ret
  exact ⟨v9, rfl, by rw [HH.out]; exact Pk.own_le HO9.out HBw5.out.size, HB9.out⟩
set_option maxRecDepth 20000 in
set_option maxHeartbeats 8000000 in
theorem put_chk (m : Iv) (W : World) (hr : rightI m = true) (ho : m.Ok) (hxo : m.x.Ok W) (h1 : hC m.k = true) (h2 : hS m.k = false) (h3 : hN m.k = false) (h4 : hO m.k = false) (h5 : hP m.k = false) : Calls Tryz.prog 18 #[.agg m.cells.toArray] W fun e W' => ∃ v, e = .returned v ∧ W'.ownsRow W.heap.size 5 1 v (encI m).length (u8s (encI m)) ∧ Below W.heap.size W W' := by
  have bA := Blk.new W 48 m.cells.toArray
  have hB0 := (Below.refl W.heap.size W).alloc (Nat.le_refl _) (.cells m.cells.toArray 48)
  obtain ⟨W1, hw1⟩ : ∃ W1, W1 = W.alloc (.cells m.cells.toArray 48) := ⟨_, rfl⟩
  rw [← hw1] at bA hB0
  have HW1 := Lib.hid hw1
  have HX1 := Lib.hid bA
  have HB1 := Lib.hid hB0
  have HO := Lib.hid ho
  have HXO := Lib.hid hxo
  have HRR := Lib.hid hr
  have HEN := Lib.hid (show encI m = enc (wordN m.k) ++ (enc (wordN m.ca) ++ (encV m.f ++ enc m.t)) by unfold encI; rw [h1, h2, h3, h4, h5]; simp)
  have wk := wrap_word m.k
  have hlt1 := bA.lt
  have c0 := (iv_all bA).2.2.2.2.1
  clear bA ho hB0 hw1 hr hxo
  go_enter Tryz.func18, Tryz.ntmps18
  go_upto_region 1 with fail
  rw [← HW1.out]
  clear HW1
  refine wp_region_tree (S := (fun w' => w'.cell? ⟨W.heap.size, 0, none⟩ = some (.int .i64 m.k))) (.take 1 (.take 2 (.take 3 (.one 0 (.one 4 (.take 5 .nil)))))) 9999 (by kernel_rfl) (by kernel_rfl) (by kernel_rfl) (by kernel_rfl) (by kernel_rfl) (fun _ _ d _ _ h => by cases d <;> exact h) c0 (fun hHeld => ?_); simp only [Tree.map, List.getElem?_toArray, List.getElem?_cons_zero, List.getElem?_cons_succ]
  (repeat (first | (refine wpTree.take (v := undef) (Or.inr ⟨by rfl, rfl⟩) ?_; simp only [Act.put, List.setIfInBounds_toArray, List.set_cons_zero, List.set_cons_succ]) | (refine wpTree.take (v := ?_) (Or.inl ⟨by rfl, ?_⟩) ?_; rotate_left; (focus (intro _ hS; (try dsimp only at hS); go_split_ands; (try subst hS); go_simp; (try (with_reducible rfl)); done)); simp only [Act.put, List.setIfInBounds_toArray, List.set_cons_zero, List.set_cons_succ])))
  refine wpTree.one (fun K hK => ?_)
  go_simp
  go_at_call 50
  refine (new_any W1.drew).mono ?_
  rintro e w2 ⟨rfl, hw, hb⟩
  obtain ⟨B, hBe⟩ : ∃ B, B = W1.drew.heap.size := ⟨_, rfl⟩
  have hBl : W.heap.size < B := by rw [hBe]; exact hlt1
  have hb2 : Below W1.heap.size W1 w2 := (Below.refl _ _).drew.trans hb
  have HB2 := Lib.hid (HB1.out.trans (hb2.mono HB1.out.size))
  have HX2 := Lib.hid (HX1.out.next hb2)
  rw [← hBe] at hw ⊢
  have HW2 := Lib.hid hw
  have HBL := Lib.hid hBl
  have c02 := (iv_all HX2.out).2.2.2.2.1
  refine hK.out _ _ c02 (fun _ => ?_)
  clear hK K hHeld hw hb hb2 hBe hlt1 c0 hBl HX1 HB1
  (try simp only [Act.put, List.setIfInBounds_toArray, List.set_cons_zero, List.set_cons_succ])
  refine wpTree.one (fun K hK => ?_)
  go_simp
  go_at_call 51
  refine (wnum_any B B (wordN m.k) [] w2 HW2.out (wordN_lt _) (by decide)).mono ?_
  rintro e w3 ⟨rfl, hw, hr⟩
  have HBw3 := Lib.hid (HB2.out.trans (hr.1.mono (Nat.le_of_lt HBL.out)))
  have HXw3 := Lib.hid (blk_below HX2.out hr.1 HBL.out)
  obtain ⟨E3, hE3⟩ : ∃ E, E = enc (wordN m.k) := ⟨_, rfl⟩
  have HLw3 := Lib.hid (show E3.length ≤ 10 by rw [hE3]; exact enc_len _ (wordN_lt _))
  have HWw3 := Lib.hid (show Wtr w3 B B E3 by rw [hE3]; simpa using hw)
  have HE3 := Lib.hid hE3
  have c0 := (iv_all HXw3.out).2.2.2.2.1
  refine hK.out _ _ c0 (fun _ => ?_)
  clear hK K hw hr c02 HB2 HX2 HW2 wk hE3
  (try simp only [Act.put, List.setIfInBounds_toArray, List.set_cons_zero, List.set_cons_succ])
  (repeat (first | (refine wpTree.take (v := undef) (Or.inr ⟨by rfl, rfl⟩) ?_; simp only [Act.put, List.setIfInBounds_toArray, List.set_cons_zero, List.set_cons_succ]) | (refine wpTree.take (v := ?_) (Or.inl ⟨by rfl, ?_⟩) ?_; rotate_left; (focus (intro _ hS; (try dsimp only at hS); go_split_ands; (try subst hS); go_simp; (try (with_reducible rfl)); done)); simp only [Act.put, List.setIfInBounds_toArray, List.set_cons_zero, List.set_cons_succ])))
  refine wpTree.done ?_
  clear c0
  obtain ⟨-, rf, ro, rx, c0, c1, c2, c3, ct⟩ := iv_all HXw3.out
  clear rf ro rx c2 c3 ct
  have wv := wrap_word m.ca
  go_upto_region 4 with (first | (go_at_call 31; refine (hascart_any _ _).mono ?_; rintro e wh ⟨rfl, rfl⟩; rw [h1]) | (go_at_call 33; refine (hasseller_any _ _).mono ?_; rintro e wh ⟨rfl, rfl⟩; rw [h2]) | (go_at_call 34; refine (hasnode_any _ _).mono ?_; rintro e wh ⟨rfl, rfl⟩; rw [h3]) | (go_at_call 35; refine (hasop_any _ _).mono ?_; rintro e wh ⟨rfl, rfl⟩; rw [h4]) | (go_at_call 37; refine (haspacket_any _ _).mono ?_; rintro e wh ⟨rfl, rfl⟩; rw [h5]) | (go_at_call 51; refine (wnum_any B B (wordN m.ca) E3 _ HWw3.out (wordN_lt _) (by have := HLw3.out; omega)).mono ?_; rintro e w4 ⟨rfl, hw, hr⟩; have HBw4 := Lib.hid (HBw3.out.trans (hr.1.mono (Nat.le_of_lt HBL.out))); have HXw4 := Lib.hid (blk_below HXw3.out hr.1 HBL.out); obtain ⟨E4, hE⟩ : ∃ E, E = E3 ++ enc (wordN m.ca) := ⟨_, rfl⟩; rw [← hE] at hw; have HWw4 := Lib.hid hw; have HLw4 := Lib.hid (show E4.length ≤ 20 from (by rw [hE, List.length_append]; have := HLw3.out; have := enc_len _ (wordN_lt m.ca); omega)); have HE4 := Lib.hid hE; clear hw hr hE; clear c0 c1))
  clear wv HXw3 HBw3 HWw3 HLw3
  obtain ⟨-, rf, ro, rx, c0, c1, c2, c3, ct⟩ := iv_all HXw4.out
  clear ro rx c1 c2 c3
  go_upto_region 9 with (first | (go_at_call 31; refine (hascart_any _ _).mono ?_; rintro e wh ⟨rfl, rfl⟩; rw [h1]) | (go_at_call 33; refine (hasseller_any _ _).mono ?_; rintro e wh ⟨rfl, rfl⟩; rw [h2]) | (go_at_call 34; refine (hasnode_any _ _).mono ?_; rintro e wh ⟨rfl, rfl⟩; rw [h3]) | (go_at_call 35; refine (hasop_any _ _).mono ?_; rintro e wh ⟨rfl, rfl⟩; rw [h4]) | (go_at_call 37; refine (haspacket_any _ _).mono ?_; rintro e wh ⟨rfl, rfl⟩; rw [h5]))
  clear c0
  refine wp_region_tree (S := (fun w' => w'.cell? ⟨W.heap.size, 16, none⟩ = some (.int .u64 (m.t : Nat)) ∧ w'.rangeAt W.heap.size 4 (vl m.f))) (.take 0 (.take 1 (.take 2 (.take 4 (.take 5 (.one 3 (.one 6 .nil))))))) 9999 (by kernel_rfl) (by kernel_rfl) (by kernel_rfl) (by kernel_rfl) (by kernel_rfl) (fun _ _ d _ _ h => by cases d <;> exact h) ⟨ct, rf⟩ (fun hHeld => ?_); simp only [Tree.map, List.getElem?_toArray, List.getElem?_cons_zero, List.getElem?_cons_succ]
  (repeat (first | (refine wpTree.take (v := undef) (Or.inr ⟨by rfl, rfl⟩) ?_; simp only [Act.put, List.setIfInBounds_toArray, List.set_cons_zero, List.set_cons_succ]) | (refine wpTree.take (v := .agg (vl ?_).toArray) (yieldsIf_load_mid rfl 24 _ rfl _ _ rfl (vl _) _ ?_ Tryz.underlying24 rfl (vinfoL _)) ?_; rotate_left; (focus (intro _ hS; (try dsimp only at hS); go_split_ands; (first | assumption | exact Blk.range (by assumption)))); simp only [Act.put, List.setIfInBounds_toArray, List.set_cons_zero, List.set_cons_succ]) | (refine wpTree.take (v := ?_) (Or.inl ⟨by rfl, ?_⟩) ?_; rotate_left; (focus (intro _ hS; (try dsimp only at hS); go_split_ands; (try subst hS); go_simp; (try (with_reducible rfl)); done)); simp only [Act.put, List.setIfInBounds_toArray, List.set_cons_zero, List.set_cons_succ])))
  have HWd := Lib.hid (show Wtr w4.drew B B E4 from HWw4.out)
  have HBd := Lib.hid (HBw4.out.drew)
  have HXd := Lib.hid (HXw4.out.drew)
  have HLd := Lib.hid HLw4.out
  refine wpTree.one (fun K hK => ?_)
  go_simp
  go_at_call 52
  refine (wvector_any B B m.f E4 _ HWd.out HO.out.f (by have := HLd.out; omega)).mono ?_
  rintro e wv ⟨rfl, hw, hr⟩
  have HBwv := Lib.hid (HBd.out.trans (hr.1.mono (Nat.le_of_lt HBL.out))); have HXwv := Lib.hid (blk_below HXd.out hr.1 HBL.out); obtain ⟨E5v, hE⟩ : ∃ E, E = E4 ++ encV m.f := ⟨_, rfl⟩; rw [← hE] at hw; have HWwv := Lib.hid hw; have HLwv := Lib.hid (show E5v.length ≤ 150 from (by rw [hE, List.length_append]; have := HLd.out; have := encV_len m.f HO.out.f; omega)); have HE5v := Lib.hid hE; clear hw hr hE
  obtain ⟨-, rf2, -, -, -, -, -, -, ct2⟩ := iv_all HXwv.out
  refine hK.out _ _ ⟨ct2, rf2⟩ (fun _ => ?_)
  clear hK K hHeld
  (try simp only [Act.put, List.setIfInBounds_toArray, List.set_cons_zero, List.set_cons_succ])
  refine wpTree.one (fun K hK => ?_)
  go_simp
  go_at_call 51
  refine (wnum_any B B m.t E5v _ HWwv.out HO.out.t (by have := HLwv.out; omega)).mono ?_
  rintro e w5 ⟨rfl, hw, hr⟩
  have HBw5 := Lib.hid (HBwv.out.trans (hr.1.mono (Nat.le_of_lt HBL.out))); have HXw5 := Lib.hid (blk_below HXwv.out hr.1 HBL.out); obtain ⟨E5, hE⟩ : ∃ E, E = E5v ++ enc m.t := ⟨_, rfl⟩; rw [← hE] at hw; have HWw5 := Lib.hid hw; have HLw5 := Lib.hid (show E5.length ≤ 160 from (by rw [hE, List.length_append]; have := HLwv.out; have := enc_len m.t HO.out.t; omega)); have HE5 := Lib.hid hE; clear hw hr hE
  obtain ⟨-, rf3, -, -, -, -, -, -, ct3⟩ := iv_all HXw5.out
  refine hK.out _ _ ⟨ct3, rf3⟩ (fun _ => ?_)
  clear hK K
  (try simp only [Act.put, List.setIfInBounds_toArray, List.set_cons_zero, List.set_cons_succ])
  refine wpTree.done ?_
  clear ct rf ct2 rf2 ct3 rf3 HWd HBd HXd HLd HWwv HBwv HXwv HLwv HXw4 HBw4 HWw4 HLw4
  obtain ⟨-, rf, ro, rx, c0, c1, c2, c3, ct⟩ := iv_all HXw5.out
  clear rf ro rx c1 c2 c3 ct
  have hE : encI m = E5 := by rw [HEN.out, HE5.out, HE5v.out, HE4.out, HE3.out]; simp only [List.append_assoc]
  have HH := Lib.hid hE
  clear hE
  go_wp2_with (first | (go_at_call 31; refine (hascart_any _ _).mono ?_; rintro e wh ⟨rfl, rfl⟩; rw [h1]) | (go_at_call 33; refine (hasseller_any _ _).mono ?_; rintro e wh ⟨rfl, rfl⟩; rw [h2]) | (go_at_call 34; refine (hasnode_any _ _).mono ?_; rintro e wh ⟨rfl, rfl⟩; rw [h3]) | (go_at_call 35; refine (hasop_any _ _).mono ?_; rintro e wh ⟨rfl, rfl⟩; rw [h4]) | (go_at_call 37; refine (haspacket_any _ _).mono ?_; rintro e wh ⟨rfl, rfl⟩; rw [h5]) | (go_at_call 56; refine (bytes_any B B E5 _ HWw5.out (by have := HLw5.out; omega)).mono ?_; rintro e w9 ⟨v9, rfl, hown, hb⟩; have HB9 := Lib.hid (HBw5.out.trans (hb.mono HBw5.out.size)); have HO9 := Lib.hid hown; clear hown hb c0))
  go_ret
  exact ⟨v9, rfl, by rw [HH.out]; exact Pk.own_le HO9.out HBw5.out.size, HB9.out⟩
set_option maxRecDepth 20000 in
set_option maxHeartbeats 8000000 in
theorem put_pac (m : Iv) (W : World) (hr : rightI m = true) (ho : m.Ok) (hxo : m.x.Ok W) (h1 : hC m.k = false) (h2 : hS m.k = false) (h3 : hN m.k = false) (h4 : hO m.k = false) (h5 : hP m.k = true) : Calls Tryz.prog 18 #[.agg m.cells.toArray] W fun e W' => ∃ v, e = .returned v ∧ W'.ownsRow W.heap.size 5 1 v (encI m).length (u8s (encI m)) ∧ Below W.heap.size W W' := by
  have bA := Blk.new W 48 m.cells.toArray
  have hB0 := (Below.refl W.heap.size W).alloc (Nat.le_refl _) (.cells m.cells.toArray 48)
  obtain ⟨W1, hw1⟩ : ∃ W1, W1 = W.alloc (.cells m.cells.toArray 48) := ⟨_, rfl⟩
  rw [← hw1] at bA hB0
  have HW1 := Lib.hid hw1
  have HX1 := Lib.hid bA
  have HB1 := Lib.hid hB0
  have HO := Lib.hid ho
  have HXO := Lib.hid hxo
  have HRR := Lib.hid hr
  have HEN := Lib.hid (show encI m = enc (wordN m.k) ++ (enc (Pk.encP m.x.p).length ++ Pk.encP m.x.p) by unfold encI; rw [h1, h2, h3, h4, h5]; simp)
  have wk := wrap_word m.k
  have hlt1 := bA.lt
  have c0 := (iv_all bA).2.2.2.2.1
  clear bA ho hB0 hw1 hr hxo
  go_enter Tryz.func18, Tryz.ntmps18
  go_upto_region 1 with fail
  rw [← HW1.out]
  clear HW1
  refine wp_region_tree (S := (fun w' => w'.cell? ⟨W.heap.size, 0, none⟩ = some (.int .i64 m.k))) (.take 1 (.take 2 (.take 3 (.one 0 (.one 4 (.take 5 .nil)))))) 9999 (by kernel_rfl) (by kernel_rfl) (by kernel_rfl) (by kernel_rfl) (by kernel_rfl) (fun _ _ d _ _ h => by cases d <;> exact h) c0 (fun hHeld => ?_); simp only [Tree.map, List.getElem?_toArray, List.getElem?_cons_zero, List.getElem?_cons_succ]
  (repeat (first | (refine wpTree.take (v := undef) (Or.inr ⟨by rfl, rfl⟩) ?_; simp only [Act.put, List.setIfInBounds_toArray, List.set_cons_zero, List.set_cons_succ]) | (refine wpTree.take (v := ?_) (Or.inl ⟨by rfl, ?_⟩) ?_; rotate_left; (focus (intro _ hS; (try dsimp only at hS); go_split_ands; (try subst hS); go_simp; (try (with_reducible rfl)); done)); simp only [Act.put, List.setIfInBounds_toArray, List.set_cons_zero, List.set_cons_succ])))
  refine wpTree.one (fun K hK => ?_)
  go_simp
  go_at_call 50
  refine (new_any W1.drew).mono ?_
  rintro e w2 ⟨rfl, hw, hb⟩
  obtain ⟨B, hBe⟩ : ∃ B, B = W1.drew.heap.size := ⟨_, rfl⟩
  have hBl : W.heap.size < B := by rw [hBe]; exact hlt1
  have hb2 : Below W1.heap.size W1 w2 := (Below.refl _ _).drew.trans hb
  have HB2 := Lib.hid (HB1.out.trans (hb2.mono HB1.out.size))
  have HX2 := Lib.hid (HX1.out.next hb2)
  rw [← hBe] at hw ⊢
  have HW2 := Lib.hid hw
  have HBL := Lib.hid hBl
  have c02 := (iv_all HX2.out).2.2.2.2.1
  refine hK.out _ _ c02 (fun _ => ?_)
  clear hK K hHeld hw hb hb2 hBe hlt1 c0 hBl HX1 HB1
  (try simp only [Act.put, List.setIfInBounds_toArray, List.set_cons_zero, List.set_cons_succ])
  refine wpTree.one (fun K hK => ?_)
  go_simp
  go_at_call 51
  refine (wnum_any B B (wordN m.k) [] w2 HW2.out (wordN_lt _) (by decide)).mono ?_
  rintro e w3 ⟨rfl, hw, hr⟩
  have HBw3 := Lib.hid (HB2.out.trans (hr.1.mono (Nat.le_of_lt HBL.out)))
  have HXw3 := Lib.hid (blk_below HX2.out hr.1 HBL.out)
  obtain ⟨E3, hE3⟩ : ∃ E, E = enc (wordN m.k) := ⟨_, rfl⟩
  have HLw3 := Lib.hid (show E3.length ≤ 10 by rw [hE3]; exact enc_len _ (wordN_lt _))
  have HWw3 := Lib.hid (show Wtr w3 B B E3 by rw [hE3]; simpa using hw)
  have HE3 := Lib.hid hE3
  have c0 := (iv_all HXw3.out).2.2.2.2.1
  refine hK.out _ _ c0 (fun _ => ?_)
  clear hK K hw hr c02 HB2 HX2 HW2 wk hE3
  (try simp only [Act.put, List.setIfInBounds_toArray, List.set_cons_zero, List.set_cons_succ])
  (repeat (first | (refine wpTree.take (v := undef) (Or.inr ⟨by rfl, rfl⟩) ?_; simp only [Act.put, List.setIfInBounds_toArray, List.set_cons_zero, List.set_cons_succ]) | (refine wpTree.take (v := ?_) (Or.inl ⟨by rfl, ?_⟩) ?_; rotate_left; (focus (intro _ hS; (try dsimp only at hS); go_split_ands; (try subst hS); go_simp; (try (with_reducible rfl)); done)); simp only [Act.put, List.setIfInBounds_toArray, List.set_cons_zero, List.set_cons_succ])))
  refine wpTree.done ?_
  clear c0
  obtain ⟨-, rf, ro, rx, c0, c1, c2, c3, ct⟩ := iv_all HXw3.out
  clear rf ro c1 c2 c3 ct
  have HRT := Lib.hid (Pk.right_of (body_pk HRR.out h5))
  have HP256 := Lib.hid HXO.out.h256
  have HWP := Lib.hid (Pk.write_yes w3 m.x HRT.out (HXO.out.next HBw3.out))
  obtain ⟨P, hP⟩ : ∃ P, P = Pk.encP m.x.p := ⟨_, rfl⟩
  rw [← hP] at HWP HEN
  have HLP := Lib.hid (show P.length ≤ 2010 by rw [hP]; exact encP_len HRT.out HP256.out)
  clear hP
  go_upto_region 14 with (first | (go_at_call 31; refine (hascart_any _ _).mono ?_; rintro e wh ⟨rfl, rfl⟩; rw [h1]) | (go_at_call 33; refine (hasseller_any _ _).mono ?_; rintro e wh ⟨rfl, rfl⟩; rw [h2]) | (go_at_call 34; refine (hasnode_any _ _).mono ?_; rintro e wh ⟨rfl, rfl⟩; rw [h3]) | (go_at_call 35; refine (hasop_any _ _).mono ?_; rintro e wh ⟨rfl, rfl⟩; rw [h4]) | (go_at_call 37; refine (haspacket_any _ _).mono ?_; rintro e wh ⟨rfl, rfl⟩; rw [h5]) | (refine wpList_load_midg (by rfl) 30 _ rfl _ _ rfl (Pk.Pc.cells ?_) _ ?_ Tryz.underlying30 rfl (Pk.pcinfo _) ?_; rotate_left; (focus assumption)) | (go_at_call 54; refine HWP.out.mono ?_; rintro e wp ⟨vp, rfl, hown, hb⟩; obtain ⟨Ap, cp, rfl, hcp, hyp, hnp⟩ := Byt.own_byr (bs := P) hown; have HY := Lib.hid (And.intro hyp hnp); have HBp := Lib.hid (HBw3.out.trans (hb.mono HBw3.out.size)); have HXp := Lib.hid (HXw3.out.next hb); have HWp := Lib.hid (HWw3.out.next hb); have HLp := Lib.hid HLw3.out; have HSP := Lib.hid (fun w' (hO : Wrote B B wp w') => (show Src w' Ap P.length (u8s P) from src_keep hown hb HWw3.out hO)); clear hown hb hcp hyp hnp c0 rx))
  clear HXw3 HBw3 HWw3 HLw3
  obtain ⟨nP, hnP⟩ : ∃ n, n = P.length := ⟨_, rfl⟩
  rw [← hnP] at HSP HLP ⊢
  have HNP := Lib.hid hnP.symm
  clear hnP
  go_upto_region 15 with (first | (go_at_call 55; refine (wtext_any B B nP cp Ap E3 P _ HWp.out HNP.out (by have := HLp.out; have := HLP.out; omega) HSP.out).mono ?_; rintro e w4 ⟨rfl, hw, hr⟩; rw [List.append_assoc] at hw; have HBw4 := Lib.hid (HBp.out.trans (hr.1.mono (Nat.le_of_lt HBL.out))); have HXw4 := Lib.hid (blk_below HXp.out hr.1 HBL.out); obtain ⟨E4, hE⟩ : ∃ E, E = E3 ++ (enc nP ++ P) := ⟨_, rfl⟩; rw [← hE] at hw; have HWw4 := Lib.hid hw; have HLw4 := Lib.hid (show E4.length ≤ 2030 from (by rw [hE, List.length_append]; have := HLp.out; have := (show (enc nP ++ P).length ≤ 2020 from (by rw [List.length_append]; have := HLP.out; have := enc_len nP (by omega); have := HNP.out; omega)); omega)); have HE4 := Lib.hid hE; clear hw hr hE))
  clear HXp HBp HWp HLp HSP
  obtain ⟨-, rf, ro, rx, c0, c1, c2, c3, ct⟩ := iv_all HXw4.out
  clear rf ro rx c1 c2 c3 ct
  have hE : encI m = E4 := by rw [HEN.out, HE4.out, HE3.out, HNP.out]
  have HH := Lib.hid hE
  clear hE
  go_wp2_with (first | (go_at_call 31; refine (hascart_any _ _).mono ?_; rintro e wh ⟨rfl, rfl⟩; rw [h1]) | (go_at_call 33; refine (hasseller_any _ _).mono ?_; rintro e wh ⟨rfl, rfl⟩; rw [h2]) | (go_at_call 34; refine (hasnode_any _ _).mono ?_; rintro e wh ⟨rfl, rfl⟩; rw [h3]) | (go_at_call 35; refine (hasop_any _ _).mono ?_; rintro e wh ⟨rfl, rfl⟩; rw [h4]) | (go_at_call 37; refine (haspacket_any _ _).mono ?_; rintro e wh ⟨rfl, rfl⟩; rw [h5]) | (go_at_call 56; refine (bytes_any B B E4 _ HWw4.out (by have := HLw4.out; omega)).mono ?_; rintro e w9 ⟨v9, rfl, hown, hb⟩; have HB9 := Lib.hid (HBw4.out.trans (hb.mono HBw4.out.size)); have HO9 := Lib.hid hown; clear hown hb c0))
  go_ret
  exact ⟨v9, rfl, by rw [HH.out]; exact Pk.own_le HO9.out HBw4.out.size, HB9.out⟩
set_option maxRecDepth 20000 in
set_option maxHeartbeats 8000000 in
theorem put_ord (m : Iv) (W : World) (hr : rightI m = true) (ho : m.Ok) (hxo : m.x.Ok W) (h1 : hC m.k = true) (h2 : hS m.k = true) (h3 : hN m.k = false) (h4 : hO m.k = true) (h5 : hP m.k = false) : Calls Tryz.prog 18 #[.agg m.cells.toArray] W fun e W' => ∃ v, e = .returned v ∧ W'.ownsRow W.heap.size 5 1 v (encI m).length (u8s (encI m)) ∧ Below W.heap.size W W' := by
  have bA := Blk.new W 48 m.cells.toArray
  have hB0 := (Below.refl W.heap.size W).alloc (Nat.le_refl _) (.cells m.cells.toArray 48)
  obtain ⟨W1, hw1⟩ : ∃ W1, W1 = W.alloc (.cells m.cells.toArray 48) := ⟨_, rfl⟩
  rw [← hw1] at bA hB0
  have HW1 := Lib.hid hw1
  have HX1 := Lib.hid bA
  have HB1 := Lib.hid hB0
  have HO := Lib.hid ho
  have HXO := Lib.hid hxo
  have HRR := Lib.hid hr
  have HEN := Lib.hid (show encI m = enc (wordN m.k) ++ (enc (wordN m.ca) ++ (enc (wordN m.se) ++ (encV m.f ++ (enc m.t ++ encO m.o)))) by unfold encI; rw [h1, h2, h3, h4, h5]; simp)
  have wk := wrap_word m.k
  have hlt1 := bA.lt
  have c0 := (iv_all bA).2.2.2.2.1
  clear bA ho hB0 hw1 hr hxo
  go_enter Tryz.func18, Tryz.ntmps18
  go_upto_region 1 with fail
  rw [← HW1.out]
  clear HW1
  refine wp_region_tree (S := (fun w' => w'.cell? ⟨W.heap.size, 0, none⟩ = some (.int .i64 m.k))) (.take 1 (.take 2 (.take 3 (.one 0 (.one 4 (.take 5 .nil)))))) 9999 (by kernel_rfl) (by kernel_rfl) (by kernel_rfl) (by kernel_rfl) (by kernel_rfl) (fun _ _ d _ _ h => by cases d <;> exact h) c0 (fun hHeld => ?_); simp only [Tree.map, List.getElem?_toArray, List.getElem?_cons_zero, List.getElem?_cons_succ]
  (repeat (first | (refine wpTree.take (v := undef) (Or.inr ⟨by rfl, rfl⟩) ?_; simp only [Act.put, List.setIfInBounds_toArray, List.set_cons_zero, List.set_cons_succ]) | (refine wpTree.take (v := ?_) (Or.inl ⟨by rfl, ?_⟩) ?_; rotate_left; (focus (intro _ hS; (try dsimp only at hS); go_split_ands; (try subst hS); go_simp; (try (with_reducible rfl)); done)); simp only [Act.put, List.setIfInBounds_toArray, List.set_cons_zero, List.set_cons_succ])))
  refine wpTree.one (fun K hK => ?_)
  go_simp
  go_at_call 50
  refine (new_any W1.drew).mono ?_
  rintro e w2 ⟨rfl, hw, hb⟩
  obtain ⟨B, hBe⟩ : ∃ B, B = W1.drew.heap.size := ⟨_, rfl⟩
  have hBl : W.heap.size < B := by rw [hBe]; exact hlt1
  have hb2 : Below W1.heap.size W1 w2 := (Below.refl _ _).drew.trans hb
  have HB2 := Lib.hid (HB1.out.trans (hb2.mono HB1.out.size))
  have HX2 := Lib.hid (HX1.out.next hb2)
  rw [← hBe] at hw ⊢
  have HW2 := Lib.hid hw
  have HBL := Lib.hid hBl
  have c02 := (iv_all HX2.out).2.2.2.2.1
  refine hK.out _ _ c02 (fun _ => ?_)
  clear hK K hHeld hw hb hb2 hBe hlt1 c0 hBl HX1 HB1
  (try simp only [Act.put, List.setIfInBounds_toArray, List.set_cons_zero, List.set_cons_succ])
  refine wpTree.one (fun K hK => ?_)
  go_simp
  go_at_call 51
  refine (wnum_any B B (wordN m.k) [] w2 HW2.out (wordN_lt _) (by decide)).mono ?_
  rintro e w3 ⟨rfl, hw, hr⟩
  have HBw3 := Lib.hid (HB2.out.trans (hr.1.mono (Nat.le_of_lt HBL.out)))
  have HXw3 := Lib.hid (blk_below HX2.out hr.1 HBL.out)
  obtain ⟨E3, hE3⟩ : ∃ E, E = enc (wordN m.k) := ⟨_, rfl⟩
  have HLw3 := Lib.hid (show E3.length ≤ 10 by rw [hE3]; exact enc_len _ (wordN_lt _))
  have HWw3 := Lib.hid (show Wtr w3 B B E3 by rw [hE3]; simpa using hw)
  have HE3 := Lib.hid hE3
  have c0 := (iv_all HXw3.out).2.2.2.2.1
  refine hK.out _ _ c0 (fun _ => ?_)
  clear hK K hw hr c02 HB2 HX2 HW2 wk hE3
  (try simp only [Act.put, List.setIfInBounds_toArray, List.set_cons_zero, List.set_cons_succ])
  (repeat (first | (refine wpTree.take (v := undef) (Or.inr ⟨by rfl, rfl⟩) ?_; simp only [Act.put, List.setIfInBounds_toArray, List.set_cons_zero, List.set_cons_succ]) | (refine wpTree.take (v := ?_) (Or.inl ⟨by rfl, ?_⟩) ?_; rotate_left; (focus (intro _ hS; (try dsimp only at hS); go_split_ands; (try subst hS); go_simp; (try (with_reducible rfl)); done)); simp only [Act.put, List.setIfInBounds_toArray, List.set_cons_zero, List.set_cons_succ])))
  refine wpTree.done ?_
  clear c0
  obtain ⟨-, rf, ro, rx, c0, c1, c2, c3, ct⟩ := iv_all HXw3.out
  clear rf ro rx c2 c3 ct
  have wv := wrap_word m.ca
  go_upto_region 4 with (first | (go_at_call 31; refine (hascart_any _ _).mono ?_; rintro e wh ⟨rfl, rfl⟩; rw [h1]) | (go_at_call 33; refine (hasseller_any _ _).mono ?_; rintro e wh ⟨rfl, rfl⟩; rw [h2]) | (go_at_call 34; refine (hasnode_any _ _).mono ?_; rintro e wh ⟨rfl, rfl⟩; rw [h3]) | (go_at_call 35; refine (hasop_any _ _).mono ?_; rintro e wh ⟨rfl, rfl⟩; rw [h4]) | (go_at_call 37; refine (haspacket_any _ _).mono ?_; rintro e wh ⟨rfl, rfl⟩; rw [h5]) | (go_at_call 51; refine (wnum_any B B (wordN m.ca) E3 _ HWw3.out (wordN_lt _) (by have := HLw3.out; omega)).mono ?_; rintro e w4 ⟨rfl, hw, hr⟩; have HBw4 := Lib.hid (HBw3.out.trans (hr.1.mono (Nat.le_of_lt HBL.out))); have HXw4 := Lib.hid (blk_below HXw3.out hr.1 HBL.out); obtain ⟨E4, hE⟩ : ∃ E, E = E3 ++ enc (wordN m.ca) := ⟨_, rfl⟩; rw [← hE] at hw; have HWw4 := Lib.hid hw; have HLw4 := Lib.hid (show E4.length ≤ 20 from (by rw [hE, List.length_append]; have := HLw3.out; have := enc_len _ (wordN_lt m.ca); omega)); have HE4 := Lib.hid hE; clear hw hr hE; clear c0 c1))
  clear wv HXw3 HBw3 HWw3 HLw3
  obtain ⟨-, rf, ro, rx, c0, c1, c2, c3, ct⟩ := iv_all HXw4.out
  clear rf ro rx c1 c3 ct
  have wv := wrap_word m.se
  go_upto_region 6 with (first | (go_at_call 31; refine (hascart_any _ _).mono ?_; rintro e wh ⟨rfl, rfl⟩; rw [h1]) | (go_at_call 33; refine (hasseller_any _ _).mono ?_; rintro e wh ⟨rfl, rfl⟩; rw [h2]) | (go_at_call 34; refine (hasnode_any _ _).mono ?_; rintro e wh ⟨rfl, rfl⟩; rw [h3]) | (go_at_call 35; refine (hasop_any _ _).mono ?_; rintro e wh ⟨rfl, rfl⟩; rw [h4]) | (go_at_call 37; refine (haspacket_any _ _).mono ?_; rintro e wh ⟨rfl, rfl⟩; rw [h5]) | (go_at_call 51; refine (wnum_any B B (wordN m.se) E4 _ HWw4.out (wordN_lt _) (by have := HLw4.out; omega)).mono ?_; rintro e w5 ⟨rfl, hw, hr⟩; have HBw5 := Lib.hid (HBw4.out.trans (hr.1.mono (Nat.le_of_lt HBL.out))); have HXw5 := Lib.hid (blk_below HXw4.out hr.1 HBL.out); obtain ⟨E5, hE⟩ : ∃ E, E = E4 ++ enc (wordN m.se) := ⟨_, rfl⟩; rw [← hE] at hw; have HWw5 := Lib.hid hw; have HLw5 := Lib.hid (show E5.length ≤ 30 from (by rw [hE, List.length_append]; have := HLw4.out; have := enc_len _ (wordN_lt m.se); omega)); have HE5 := Lib.hid hE; clear hw hr hE; clear c0 c2))
  clear wv HXw4 HBw4 HWw4 HLw4
  obtain ⟨-, rf, ro, rx, c0, c1, c2, c3, ct⟩ := iv_all HXw5.out
  clear ro rx c1 c2 c3
  go_upto_region 9 with (first | (go_at_call 31; refine (hascart_any _ _).mono ?_; rintro e wh ⟨rfl, rfl⟩; rw [h1]) | (go_at_call 33; refine (hasseller_any _ _).mono ?_; rintro e wh ⟨rfl, rfl⟩; rw [h2]) | (go_at_call 34; refine (hasnode_any _ _).mono ?_; rintro e wh ⟨rfl, rfl⟩; rw [h3]) | (go_at_call 35; refine (hasop_any _ _).mono ?_; rintro e wh ⟨rfl, rfl⟩; rw [h4]) | (go_at_call 37; refine (haspacket_any _ _).mono ?_; rintro e wh ⟨rfl, rfl⟩; rw [h5]))
  clear c0
  refine wp_region_tree (S := (fun w' => w'.cell? ⟨W.heap.size, 16, none⟩ = some (.int .u64 (m.t : Nat)) ∧ w'.rangeAt W.heap.size 4 (vl m.f))) (.take 0 (.take 1 (.take 2 (.take 4 (.take 5 (.one 3 (.one 6 .nil))))))) 9999 (by kernel_rfl) (by kernel_rfl) (by kernel_rfl) (by kernel_rfl) (by kernel_rfl) (fun _ _ d _ _ h => by cases d <;> exact h) ⟨ct, rf⟩ (fun hHeld => ?_); simp only [Tree.map, List.getElem?_toArray, List.getElem?_cons_zero, List.getElem?_cons_succ]
  (repeat (first | (refine wpTree.take (v := undef) (Or.inr ⟨by rfl, rfl⟩) ?_; simp only [Act.put, List.setIfInBounds_toArray, List.set_cons_zero, List.set_cons_succ]) | (refine wpTree.take (v := .agg (vl ?_).toArray) (yieldsIf_load_mid rfl 24 _ rfl _ _ rfl (vl _) _ ?_ Tryz.underlying24 rfl (vinfoL _)) ?_; rotate_left; (focus (intro _ hS; (try dsimp only at hS); go_split_ands; (first | assumption | exact Blk.range (by assumption)))); simp only [Act.put, List.setIfInBounds_toArray, List.set_cons_zero, List.set_cons_succ]) | (refine wpTree.take (v := ?_) (Or.inl ⟨by rfl, ?_⟩) ?_; rotate_left; (focus (intro _ hS; (try dsimp only at hS); go_split_ands; (try subst hS); go_simp; (try (with_reducible rfl)); done)); simp only [Act.put, List.setIfInBounds_toArray, List.set_cons_zero, List.set_cons_succ])))
  have HWd := Lib.hid (show Wtr w5.drew B B E5 from HWw5.out)
  have HBd := Lib.hid (HBw5.out.drew)
  have HXd := Lib.hid (HXw5.out.drew)
  have HLd := Lib.hid HLw5.out
  refine wpTree.one (fun K hK => ?_)
  go_simp
  go_at_call 52
  refine (wvector_any B B m.f E5 _ HWd.out HO.out.f (by have := HLd.out; omega)).mono ?_
  rintro e wv ⟨rfl, hw, hr⟩
  have HBwv := Lib.hid (HBd.out.trans (hr.1.mono (Nat.le_of_lt HBL.out))); have HXwv := Lib.hid (blk_below HXd.out hr.1 HBL.out); obtain ⟨E6v, hE⟩ : ∃ E, E = E5 ++ encV m.f := ⟨_, rfl⟩; rw [← hE] at hw; have HWwv := Lib.hid hw; have HLwv := Lib.hid (show E6v.length ≤ 160 from (by rw [hE, List.length_append]; have := HLd.out; have := encV_len m.f HO.out.f; omega)); have HE6v := Lib.hid hE; clear hw hr hE
  obtain ⟨-, rf2, -, -, -, -, -, -, ct2⟩ := iv_all HXwv.out
  refine hK.out _ _ ⟨ct2, rf2⟩ (fun _ => ?_)
  clear hK K hHeld
  (try simp only [Act.put, List.setIfInBounds_toArray, List.set_cons_zero, List.set_cons_succ])
  refine wpTree.one (fun K hK => ?_)
  go_simp
  go_at_call 51
  refine (wnum_any B B m.t E6v _ HWwv.out HO.out.t (by have := HLwv.out; omega)).mono ?_
  rintro e w6 ⟨rfl, hw, hr⟩
  have HBw6 := Lib.hid (HBwv.out.trans (hr.1.mono (Nat.le_of_lt HBL.out))); have HXw6 := Lib.hid (blk_below HXwv.out hr.1 HBL.out); obtain ⟨E6, hE⟩ : ∃ E, E = E6v ++ enc m.t := ⟨_, rfl⟩; rw [← hE] at hw; have HWw6 := Lib.hid hw; have HLw6 := Lib.hid (show E6.length ≤ 170 from (by rw [hE, List.length_append]; have := HLwv.out; have := enc_len m.t HO.out.t; omega)); have HE6 := Lib.hid hE; clear hw hr hE
  obtain ⟨-, rf3, -, -, -, -, -, -, ct3⟩ := iv_all HXw6.out
  refine hK.out _ _ ⟨ct3, rf3⟩ (fun _ => ?_)
  clear hK K
  (try simp only [Act.put, List.setIfInBounds_toArray, List.set_cons_zero, List.set_cons_succ])
  refine wpTree.done ?_
  clear ct rf ct2 rf2 ct3 rf3 HWd HBd HXd HLd HWwv HBwv HXwv HLwv HXw5 HBw5 HWw5 HLw5
  obtain ⟨-, rf, ro, rx, c0, c1, c2, c3, ct⟩ := iv_all HXw6.out
  clear rf rx c1 c2 c3 ct
  have HOK := Lib.hid (may_ok (body_op HRR.out h4) HO.out.p)
  go_upto_region 12 with (first | (go_at_call 31; refine (hascart_any _ _).mono ?_; rintro e wh ⟨rfl, rfl⟩; rw [h1]) | (go_at_call 33; refine (hasseller_any _ _).mono ?_; rintro e wh ⟨rfl, rfl⟩; rw [h2]) | (go_at_call 34; refine (hasnode_any _ _).mono ?_; rintro e wh ⟨rfl, rfl⟩; rw [h3]) | (go_at_call 35; refine (hasop_any _ _).mono ?_; rintro e wh ⟨rfl, rfl⟩; rw [h4]) | (go_at_call 37; refine (haspacket_any _ _).mono ?_; rintro e wh ⟨rfl, rfl⟩; rw [h5]) | (refine wpList_load_midg (by rfl) 46 _ rfl _ _ rfl (OpR.cells ?_) _ ?_ Tryz.underlying46 rfl (oinfo _) ?_; rotate_left; (focus assumption)) | (go_at_call 53; refine (putop_any B B m.o E6 _ HWw6.out HOK.out (by have := HLw6.out; omega)).mono ?_; rintro e w7 ⟨rfl, hw, hr⟩; have HBw7 := Lib.hid (HBw6.out.trans (hr.1.mono (Nat.le_of_lt HBL.out))); have HXw7 := Lib.hid (blk_below HXw6.out hr.1 HBL.out); obtain ⟨E7, hE⟩ : ∃ E, E = E6 ++ encO m.o := ⟨_, rfl⟩; rw [← hE] at hw; have HWw7 := Lib.hid hw; have HLw7 := Lib.hid (show E7.length ≤ 210 from (by rw [hE, List.length_append]; have := HLw6.out; have := encO_len HOK.out; omega)); have HE7 := Lib.hid hE; clear hw hr hE; clear c0 ro))
  clear HXw6 HBw6 HWw6 HLw6
  obtain ⟨-, rf, ro, rx, c0, c1, c2, c3, ct⟩ := iv_all HXw7.out
  clear rf ro rx c1 c2 c3 ct
  have hE : encI m = E7 := by rw [HEN.out, HE7.out, HE6.out, HE6v.out, HE5.out, HE4.out, HE3.out]; simp only [List.append_assoc]
  have HH := Lib.hid hE
  clear hE
  go_wp2_with (first | (go_at_call 31; refine (hascart_any _ _).mono ?_; rintro e wh ⟨rfl, rfl⟩; rw [h1]) | (go_at_call 33; refine (hasseller_any _ _).mono ?_; rintro e wh ⟨rfl, rfl⟩; rw [h2]) | (go_at_call 34; refine (hasnode_any _ _).mono ?_; rintro e wh ⟨rfl, rfl⟩; rw [h3]) | (go_at_call 35; refine (hasop_any _ _).mono ?_; rintro e wh ⟨rfl, rfl⟩; rw [h4]) | (go_at_call 37; refine (haspacket_any _ _).mono ?_; rintro e wh ⟨rfl, rfl⟩; rw [h5]) | (go_at_call 56; refine (bytes_any B B E7 _ HWw7.out (by have := HLw7.out; omega)).mono ?_; rintro e w9 ⟨v9, rfl, hown, hb⟩; have HB9 := Lib.hid (HBw7.out.trans (hb.mono HBw7.out.size)); have HO9 := Lib.hid hown; clear hown hb c0))
  go_ret
  exact ⟨v9, rfl, by rw [HH.out]; exact Pk.own_le HO9.out HBw7.out.size, HB9.out⟩
theorem put_any (m : Iv) (W : World) (hr : rightI m = true) (ho : m.Ok) (hxo : m.x.Ok W) : Calls Tryz.prog 18 #[.agg m.cells.toArray] W fun e W' => ∃ v, e = .returned v ∧ W'.ownsRow W.heap.size 5 1 v (encI m).length (u8s (encI m)) ∧ Below W.heap.size W W' := by
  rcases kd_any m.k with ⟨_, h1, h2, h3, h4, h5⟩ | ⟨_, h1, h2, h3, h4, h5⟩ | ⟨_, h1, h2, h3, h4, h5⟩ | ⟨_, h1, h2, h3, h4, h5⟩ | ⟨_, h1, h2, h3, h4, h5⟩ | ⟨h0, h1, h2, h3, h4, h5⟩
  · exact put_ord m W hr ho hxo h1 h2 h3 h4 h5
  · exact put_sel m W hr ho hxo h1 h2 h3 h4 h5
  · exact put_joi m W hr ho hxo h1 h2 h3 h4 h5
  · exact put_chk m W hr ho hxo h1 h2 h3 h4 h5
  · exact put_pac m W hr ho hxo h1 h2 h3 h4 h5
  · have := body_of hr
    unfold bodyI withinB at this
    simp only [Bool.and_eq_true, decide_eq_true_eq] at this
    omega
theorem encI_len {m : Iv} {W : World} (hr : rightI m = true) (ho : m.Ok) (hxo : m.x.Ok W) : (encI m).length ≤ 2400 := by
  have e0 := enc_len _ (wordN_lt m.k)
  have e1 := enc_len _ (wordN_lt m.ca)
  have e2 := enc_len _ (wordN_lt m.se)
  have e3 := enc_len _ (wordN_lt m.no)
  have e4 := encV_len m.f ho.f
  have e5 := enc_len _ ho.t
  have e6 : (if hO m.k then encO m.o else []).length ≤ 40 := by
    split
    · rename_i h; exact encO_len (may_ok (body_op hr h) ho.p)
    · simp
  have e7 : (if hP m.k then enc (Pk.encP m.x.p).length ++ Pk.encP m.x.p else []).length ≤ 2020 := by
    split
    · rename_i h
      have h1 := encP_len (Pk.right_of (body_pk hr h)) hxo.h256
      have h2 := enc_len (Pk.encP m.x.p).length (by omega)
      rw [List.length_append]; omega
    · simp
  have e8 : ∀ (b : Bool) (l : List Nat) (n : Nat), l.length ≤ n → (if b then l else []).length ≤ n := fun b l n h => by
    cases b
    · simp
    · simpa using h
  have a1 := e8 (hC m.k) _ _ e1
  have a2 := e8 (hS m.k) _ _ e2
  have a3 := e8 (hN m.k) _ _ e3
  have a4 := e8 (hC m.k) (encV m.f ++ enc m.t) 140 (by rw [List.length_append]; omega)
  unfold encI
  simp only [List.length_append] at e6 e7 a1 a2 a3 a4 ⊢
  omega
set_option maxRecDepth 20000 in
set_option maxHeartbeats 4000000 in
theorem write_no (m : Iv) (W : World) (hxo : m.x.Ok W) (hr : rightI m = false) : Calls Tryz.prog 7 #[.agg m.cells.toArray] W fun e W' => e = .returned (.tuple #[.slice none 0 0, .int .i64 3]) ∧ Below W.heap.size W W' := by
  have bA := Blk.new W 48 m.cells.toArray
  have hB0 := Lib.hid ((Below.refl W.heap.size W).alloc (Nat.le_refl _) (.cells m.cells.toArray 48))
  have HXO := Lib.hid (hxo.next hB0.out)
  have rx := bA.range
  clear bA hxo
  go_enter Tryz.func7, Tryz.ntmps7
  go_wp2_with (first | (refine wpList_load_midg (by rfl) 48 _ rfl _ _ rfl (Iv.cells ?_) _ ?_ Tryz.underlying48 rfl (ivinfo _) ?_; rotate_left; (focus assumption)) | (go_at_call 11; refine (right_any _ _ HXO.out).mono ?_; rintro e W1 ⟨rfl, hb⟩; rw [hr]; have HF := Lib.hid (hB0.out.trans (hb.mono hB0.out.size)); clear hb))
  refine bodyPost_ret (v := .tuple #[.slice none 0 0, .int .i64 3]) (by simp [results, Tryz.results7, go_sem]) rfl ⟨rfl, HF.out⟩
set_option maxRecDepth 20000 in
set_option maxHeartbeats 4000000 in
theorem write_long (m : Iv) (W : World) (hxo : m.x.Ok W) (ho : m.Ok) (hr : rightI m = true) (hlen : 1800 < (encI m).length) : Calls Tryz.prog 7 #[.agg m.cells.toArray] W fun e W' => e = .returned (.tuple #[.slice none 0 0, .int .i64 3]) ∧ Below W.heap.size W W' := by
  have bA := Blk.new W 48 m.cells.toArray
  have hB0 := (Below.refl W.heap.size W).alloc (Nat.le_refl _) (.cells m.cells.toArray 48)
  have HXO := Lib.hid (hxo.next hB0)
  have HB0 := Lib.hid hB0
  have HX := Lib.hid bA
  have HO := Lib.hid ho
  have HRR := Lib.hid hr
  have HLE := Lib.hid (And.intro hlen (encI_len hr ho hxo))
  have rx := bA.range
  clear bA hxo hB0 ho hlen
  go_enter Tryz.func7, Tryz.ntmps7
  go_upto_region 3 with (first | (refine wpList_load_midg (by rfl) 48 _ rfl _ _ rfl (Iv.cells ?_) _ ?_ Tryz.underlying48 rfl (ivinfo _) ?_; rotate_left; (focus assumption)) | (go_at_call 11; refine (right_any _ _ HXO.out).mono ?_; rintro e W1 ⟨rfl, hb⟩; rw [hr]; have HF := Lib.hid (HB0.out.trans (hb.mono HB0.out.size)); have HX1 := Lib.hid (HX.out.next hb); have HXO1 := Lib.hid (HXO.out.next hb); clear hb rx))
  clear hr
  have rx := HX1.out.range
  go_upto_region 4 with (first | (refine wpList_load_midg (by rfl) 48 _ rfl _ _ rfl (Iv.cells ?_) _ ?_ Tryz.underlying48 rfl (ivinfo _) ?_; rotate_left; (focus assumption)) | (go_at_call 18; refine (put_any m _ HRR.out HO.out HXO1.out).mono ?_; rintro e W2 ⟨v, rfl, hown, hb⟩; have HW2 := Lib.hid (Pk.own_le hown HF.out.size); have HF2 := Lib.hid (HF.out.trans (hb.mono HF.out.size)); clear hown hb rx))
  obtain ⟨A, c, rfl, -, -, -⟩ := Byt.own_byr HW2.out
  obtain ⟨n, hn⟩ : ∃ n, n = (encI m).length := ⟨_, rfl⟩
  rw [← hn] at HLE HW2 ⊢
  have hgt : decide ((1800 : Int) < (n : Nat)) = true := by have := HLE.out.1; rw [decide_eq_true_iff]; omega
  have HN := Lib.hid hn
  clear hn
  go_wp2_with fail
  refine bodyPost_ret (v := .tuple #[.slice none 0 0, .int .i64 3]) (by simp [results, Tryz.results7, go_sem]) rfl ⟨rfl, HF2.out⟩
set_option maxRecDepth 20000 in
set_option maxHeartbeats 4000000 in
theorem write_yes (m : Iv) (W : World) (hxo : m.x.Ok W) (ho : m.Ok) (hr : rightI m = true) (hlen : (encI m).length ≤ 1800) : Calls Tryz.prog 7 #[.agg m.cells.toArray] W fun e W' => ∃ v, e = .returned (.tuple #[v, .int .i64 0]) ∧ W'.ownsRow W.heap.size 5 1 v (encI m).length (u8s (encI m)) ∧ Below W.heap.size W W' := by
  have bA := Blk.new W 48 m.cells.toArray
  have hB0 := (Below.refl W.heap.size W).alloc (Nat.le_refl _) (.cells m.cells.toArray 48)
  have HXO := Lib.hid (hxo.next hB0)
  have HB0 := Lib.hid hB0
  have HX := Lib.hid bA
  have HO := Lib.hid ho
  have HRR := Lib.hid hr
  have HLE := Lib.hid (And.intro hlen (encI_len hr ho hxo))
  have rx := bA.range
  clear bA hxo hB0 ho hlen
  go_enter Tryz.func7, Tryz.ntmps7
  go_upto_region 3 with (first | (refine wpList_load_midg (by rfl) 48 _ rfl _ _ rfl (Iv.cells ?_) _ ?_ Tryz.underlying48 rfl (ivinfo _) ?_; rotate_left; (focus assumption)) | (go_at_call 11; refine (right_any _ _ HXO.out).mono ?_; rintro e W1 ⟨rfl, hb⟩; rw [hr]; have HF := Lib.hid (HB0.out.trans (hb.mono HB0.out.size)); have HX1 := Lib.hid (HX.out.next hb); have HXO1 := Lib.hid (HXO.out.next hb); clear hb rx))
  clear hr
  have rx := HX1.out.range
  go_upto_region 4 with (first | (refine wpList_load_midg (by rfl) 48 _ rfl _ _ rfl (Iv.cells ?_) _ ?_ Tryz.underlying48 rfl (ivinfo _) ?_; rotate_left; (focus assumption)) | (go_at_call 18; refine (put_any m _ HRR.out HO.out HXO1.out).mono ?_; rintro e W2 ⟨v, rfl, hown, hb⟩; have HW2 := Lib.hid (Pk.own_le hown HF.out.size); have HF2 := Lib.hid (HF.out.trans (hb.mono HF.out.size)); clear hown hb rx))
  obtain ⟨A, c, rfl, -, -, -⟩ := Byt.own_byr HW2.out
  obtain ⟨n, hn⟩ : ∃ n, n = (encI m).length := ⟨_, rfl⟩
  rw [← hn] at HLE HW2 ⊢
  have hgt : decide ((1800 : Int) < (n : Nat)) = false := by have := HLE.out.1; rw [decide_eq_false_iff_not]; omega
  have HN := Lib.hid hn
  clear hn
  go_wp2_with fail
  refine bodyPost_ret (v := .tuple #[.slice A n c, .int .i64 0]) (by simp [results, Tryz.results7, go_sem]) rfl ⟨.slice A n c, rfl, by rw [← HN.out]; exact HW2.out, HF2.out⟩
end In
end Go.Proofs.YtgnfachjobohoaaGreat
namespace Go.Proofs.YtgnfachjobohoaaGreat
open Go.RowKit
set_option linter.unusedSimpArgs false
set_option linter.unusedVariables false
namespace In
/-- The packet of bytes, if they are one's. -/
def pkOf (x : List Nat) : Option Pk.Pt := match Pk.kP x with
  | .ok ((p, s), []) => if s = Crc.sum (Pk.encB p) then some p else none
  | _ => none
theorem pkOf_some {x : List Nat} {p : Pk.Pt} (h : pkOf x = some p) : Pk.kP x = .ok ((p, Crc.sum (Pk.encB p)), []) := by
  unfold pkOf at h
  split at h
  · rename_i p' s e
    split at h
    · rename_i hs
      simp only [Option.some.injEq] at h
      subst h
      rw [e, hs]
    · cases h
  · cases h
theorem pkOf_none {x : List Nat} (h : pkOf x = none) : ∀ p, Pk.kP x ≠ .ok ((p, Crc.sum (Pk.encB p)), []) := by
  intro p e
  unfold pkOf at h
  rw [e] at h
  simp at h
def mkK (x t : List Nat) : Except Int (Pk.Pt × List Nat) := match pkOf x with
  | some p => .ok (p, t)
  | none => .error 3
/-- The packet's text that bytes begin with. -/
def pkP : List Nat → Except Int (Pk.Pt × List Nat) := bindP (textP 1800) mkK
attribute [irreducible] pkP
theorem pkP_def : pkP = bindP (textP 1800) mkK := by unfold pkP; rfl
theorem good_any (A : Option Addr) (n cp : Nat) (W : World) (bs : List Nat) (hn : bs.length = n) (hnc : n ≤ cp) (hlen : bs.length ≤ 140737488355328) (h256 : ∀ y ∈ bs, y < 256) (hbs : Byt.ByR W A bs) {p : Pk.Pt} (h : Pk.kP bs = .ok ((p, Crc.sum (Pk.encB p)), [])) :
    Calls Tryz.prog 94 #[.slice A n cp] W fun e W' => Below W.heap.size W W' ∧ ∃ A' c', e = .returned (.tuple #[.agg (Pk.Pc.mk p A' c').cells.toArray, .int .i64 0]) ∧ (Pk.Pc.mk p A' c').Ok W' ∧ (∀ b o, A' = some ⟨b, o, none⟩ → W.heap.size ≤ b) := by
  refine (Pk.read_okL A n cp W bs hn hnc hlen h256 hbs h).mono ?_
  rintro e W' ⟨hb, ⟨hm, A', c', rfl, ho, hl⟩ | ⟨hm, rfl⟩⟩
  · exact ⟨hb, A', c', rfl, ho, hl⟩
  · exact absurd rfl hm
theorem bad_any (A : Option Addr) (n cp : Nat) (W : World) (bs : List Nat) (hn : bs.length = n) (hnc : n ≤ cp) (hlen : bs.length ≤ 140737488355328) (h256 : ∀ y ∈ bs, y < 256) (hbs : Byt.ByR W A bs) (h : ∀ p, Pk.kP bs ≠ .ok ((p, Crc.sum (Pk.encB p)), [])) :
    Calls Tryz.prog 94 #[.slice A n cp] W fun e W' => Below W.heap.size W W' ∧ ∃ x : Int, x ≠ 0 ∧ e = .returned (.tuple #[.agg Pk.zc, .int .i64 x]) := by
  by_cases h1 : ∃ p m, Pk.kP bs = .ok ((p, m), [])
  · obtain ⟨p, m, h1⟩ := h1
    refine (Pk.read_ok A n cp W bs hn hnc hlen h256 hbs h1).mono ?_
    rintro e W' ⟨hb, ⟨hm, A', c', rfl, ho⟩ | ⟨hm, rfl⟩⟩
    · exact absurd (by rw [← hm]; exact h1) (h p)
    · exact ⟨hb, 9, by decide, rfl⟩
  · refine (Pk.read_form A n cp W bs hn hnc hlen h256 hbs (fun p m e => h1 ⟨p, m, e⟩)).mono ?_
    rintro e W' ⟨rfl, hb⟩
    exact ⟨hb, 3, by decide, rfl⟩
def EndsP (L s : Nat) (W : World) (r : Except Int (Pk.Pt × List Nat)) (e : Ending) (W' : World) : Prop :=
  Off s W W' ∧ match r with
  | .ok (p, t) => (∃ A c, e = .returned (.agg (Pk.Pc.mk p A c).cells.toArray) ∧ (Pk.Pc.mk p A c).Ok W' ∧ (∀ b o, A = some ⟨b, o, none⟩ → W.heap.size ≤ b)) ∧ RdB L W' s t
  | .error x => e = .panicked [{ v := flt s, recovered := false }] ∧ Met' W' s x
theorem pc_far {w w' : World} {x : Pk.Pc} {c : Nat} {t : TypeId} {cs : List Value} (h : x.Ok w) (hb : Blk w c t cs.toArray) (hn : ∀ v ∈ cs, ∀ n, v ≠ .int .u8 n) (hf : ∀ j, j ≠ c → w'.heap[j]? = w.heap[j]?) (hz : w.heap.size ≤ w'.heap.size) : x.Ok w' := by
  refine { h with rd := ?_ }
  by_cases h0 : x.p.bs = []
  · exact Or.inl h0
  rcases h.rd with h1 | ⟨b, o, e, h1, h2⟩
  · exact Or.inl h1
  have hbc : b ≠ c := by
    rintro rfl
    obtain ⟨y, l, hy⟩ := List.exists_cons_of_ne_nil h0
    have hy0 : x.p.bs[0]? = some y := by rw [hy]; rfl
    have hc := h2 0 y hy0
    rw [Nat.add_zero, hb.cell, List.getElem?_toArray] at hc
    exact hn _ (List.mem_of_getElem? hc) _ rfl
  exact Or.inr ⟨b, o, e, Nat.lt_of_lt_of_le h1 hz, fun i y hi => (World.cell?_of_block (hf b hbc)).trans (h2 i y hi)⟩
theorem pc_nou (x : Pk.Pc) : ∀ v ∈ x.cells, ∀ n, v ≠ .int .u8 n := by
  intro v hv n
  unfold Pk.Pc.cells at hv
  simp only [List.mem_cons, List.not_mem_nil, or_false] at hv
  rcases hv with rfl | rfl | rfl | rfl | rfl <;> simp
theorem iv_nou (m : Iv) : ∀ v ∈ m.cells, ∀ n, v ≠ .int .u8 n := by
  intro v hv n
  rw [iv_def] at hv
  unfold Iv.hd at hv
  simp only [List.mem_append, List.mem_cons, List.not_mem_nil, or_false] at hv
  rcases hv with (rfl | rfl | rfl | rfl) | hv | rfl | hv | hv
  · simp
  · simp
  · simp
  · simp
  · obtain ⟨j, hj⟩ := List.getElem?_of_mem hv
    have hj12 : j < 12 := by have := (List.getElem?_eq_some_iff.1 hj).1; rwa [vl_len] at this
    rw [vl_get hj12] at hj
    simp only [Option.some.injEq] at hj
    rw [← hj]; simp
  · simp
  · rw [op_cells] at hv
    simp only [List.mem_cons, List.not_mem_nil, or_false] at hv
    rcases hv with rfl | rfl | rfl | rfl <;> simp
  · exact pc_nou _ v hv n
variable {L : Nat}
set_option maxHeartbeats 4000000 in
set_option maxRecDepth 20000 in
theorem getpacket_any (k s : Nat) (bs : List Nat) (W : World) (hL : L ≤ W.heap.size) (hr : Rdr W k s) (h : RdB L W s bs) (hby : ∀ x ∈ bs, x < 256) (hlen : bs.length ≤ 140737488355328) :
    Calls Tryz.prog 64 #[.pointer (some ⟨k, 0, none⟩)] W fun e W' => EndsP L s W (pkP bs) e W' := by
  obtain ⟨R, hR⟩ : ∃ R, R = pkP bs := ⟨_, rfl⟩
  rw [← hR]
  have HR0 := Lib.hid (hR.trans (by rw [pkP_def]))
  clear hR
  have hgs : W.heap.size ≠ s := by have := h.lt; omega
  have b1 := (Below.refl W.heap.size W).alloc (Nat.le_refl _) (.cells Pk.zc 30)
  obtain ⟨w0, hw0⟩ : ∃ w0, w0 = W.alloc (.cells Pk.zc 30) := ⟨_, rfl⟩
  have A0 : RdB L w0 s bs ∧ Rdr w0 k s ∧ Blk w0 W.heap.size 30 Pk.zc ∧ Off s W w0 := by rw [hw0]; exact ⟨h.below b1, hr.below b1, Blk.new _ _ _, Off.ofBelow b1⟩
  have HW0 := Lib.hid hw0
  have HA0 := Lib.hid A0
  have HL := Lib.hid hL
  have HG := Lib.hid hgs
  have HBY := Lib.hid (And.intro hby hlen)
  clear b1 h hr hL hgs hw0 A0 hby hlen
  go_enter Tryz.func64, Tryz.ntmps64
  go_upto_region 1 with fail
  rw [← HW0.out]
  go_wp2_with fail
  refine (rtext_any k s bs 1800 w0 HA0.out.2.1 HA0.out.1 (by decide) HBY.out.2).mono ?_
  rintro e w1 ⟨hO, he⟩
  rcases hq : textP 1800 bs with x | ⟨x, b1⟩
  · rw [hq] at he
    have HE := Lib.hid (HR0.out.trans (bindP_err hq))
    have HO := Lib.hid (HA0.out.2.2.2.trans hO)
    obtain ⟨rfl, hM⟩ := he
    have HM := Lib.hid hM
    clear hq hO hM HA0 HW0
    go_wp2_with fail
    exact ⟨rfl, HO.out, by rw [HE.out]; exact ⟨rfl, HM.out⟩⟩
  rw [hq] at he
  obtain ⟨⟨v, rfl, hown⟩, hB⟩ := he
  have HR1 := Lib.hid (HR0.out.trans (bindP_ok hq))
  have HX := Lib.hid (And.intro (Pk.textP_in HBY.out.1 hq).1 (Pk.textP_left hq).2)
  have HA1 := Lib.hid (show RdB L w1 s b1 ∧ Rdr w1 k s ∧ Blk w1 W.heap.size 30 Pk.zc ∧ Off s W w1 from ⟨hB, HA0.out.2.1.off hO, hO.blk HA0.out.2.2.1 HG.out, HA0.out.2.2.2.trans hO⟩)
  obtain ⟨A, c, rfl, hc, hy, hn⟩ := Byt.own_byr (bs := x) hown
  have HY := Lib.hid (And.intro hc hy)
  clear hq hO hB HA0 HR0 HW0 hown hc hy hn HBY
  obtain ⟨nx, hnx⟩ : ∃ n, n = x.length := ⟨_, rfl⟩
  rw [← hnx] at HX HY ⊢
  have HNX := Lib.hid hnx.symm
  clear hnx
  go_wp2_with fail
  cases hp : pkOf x with
  | none =>
    refine (bad_any A nx c w1 x HNX.out HY.out.1 (by have := HX.out.2; have := HNX.out; omega) HX.out.1 HY.out.2 (pkOf_none hp)).mono ?_
    rintro e w2 ⟨hb, z, hz, rfl⟩
    have HE := Lib.hid (HR1.out.trans (show mkK x b1 = .error 3 by unfold mkK; rw [hp]))
    have HA2 := Lib.hid (show RdB L w2 s b1 ∧ Rdr w2 k s ∧ Off s W w2 from ⟨HA1.out.1.below hb, HA1.out.2.1.below hb, HA1.out.2.2.2.trans (Off.ofBelow hb)⟩)
    have z0 : (z == 0) = false := by simpa using hz
    clear hb HA1 HR1 hp hz
    go_upto_region 2 with (refine wpList_store_blk rfl 30 _ _ rfl w2.heap.size 30 Pk.zc Pk.zc rfl rfl (Blk.new' rfl) (by kernel_rfl) rfl (by simp [Value.oneCell']) ?_; intro hy)
    rw [Wr.alloc_setRow]
    have hb3 := (Below.refl w2.heap.size w2).alloc (Nat.le_refl _) (.cells Pk.zc 30)
    have HA3 := Lib.hid (And.intro (HA2.out.1.below hb3) (And.intro (HA2.out.2.1.below hb3) (HA2.out.2.2.trans (Off.ofBelow hb3))))
    clear hb3 HA2 hy
    go_wp2_with fail
    refine (rmust_not k s b1 _ HA3.out.2.1 HA3.out.1).mono ?_
    rintro e w4 ⟨rfl, hM, hO⟩
    have HO := Lib.hid (HA3.out.2.2.trans hO)
    have HM := Lib.hid hM
    clear hM hO HA3
    go_wp2_with fail
    exact ⟨rfl, HO.out, by rw [HE.out]; exact ⟨rfl, HM.out⟩⟩
  | some p =>
    refine (good_any A nx c w1 x HNX.out HY.out.1 (by have := HX.out.2; have := HNX.out; omega) HX.out.1 HY.out.2 (pkOf_some hp)).mono ?_
    rintro e w2 ⟨hb, A2, c2, rfl, hok, hlow⟩
    have HLW := Lib.hid (show ∀ b o, A2 = some ⟨b, o, none⟩ → W.heap.size ≤ b from fun b o e => by have h1 := hlow b o e; have h2 := HA1.out.2.2.2.size; omega)
    have HE := Lib.hid (HR1.out.trans (show mkK x b1 = .ok (p, b1) by unfold mkK; rw [hp]))
    have HA2 := Lib.hid (show RdB L w2 s b1 ∧ Rdr w2 k s ∧ Blk w2 W.heap.size 30 Pk.zc ∧ Off s W w2 ∧ (Pk.Pc.mk p A2 c2).Ok w2 from ⟨HA1.out.1.below hb, HA1.out.2.1.below hb, HA1.out.2.2.1.next hb, HA1.out.2.2.2.trans (Off.ofBelow hb), hok⟩)
    obtain ⟨y, hy0⟩ : ∃ y, y = Pk.Pc.mk p A2 c2 := ⟨_, rfl⟩
    rw [← hy0] at HA2 ⊢
    have HYE := Lib.hid hy0
    clear hb HA1 HR1 hp hok hy0 hlow
    go_upto_region 2 with (refine wpList_store_blk rfl 30 _ _ rfl w2.heap.size 30 Pk.zc y.cells.toArray rfl rfl (Blk.new' rfl) (Pk.pcinfoA _) (Pk.pc_siz _) (Pk.pc_one _) ?_; intro hy)
    rw [Wr.alloc_setRow]
    have hb3 := (Below.refl w2.heap.size w2).alloc (Nat.le_refl _) (.cells y.cells.toArray 30)
    have rgl := (Blk.new w2 30 y.cells.toArray).range
    have bg := HA2.out.2.2.1.next hb3
    have HA3 := Lib.hid (And.intro (HA2.out.1.below hb3) (And.intro (HA2.out.2.1.below hb3) (And.intro bg (And.intro (HA2.out.2.2.2.1.trans (Off.ofBelow hb3)) (HA2.out.2.2.2.2.next hb3)))))
    obtain ⟨w3, hw3⟩ : ∃ w3, w3 = w2.alloc (.cells y.cells.toArray 30) := ⟨_, rfl⟩
    rw [← hw3] at HA3 rgl bg ⊢
    clear hb3 HA2 hy hw3
    go_wp2_with fail
    refine (rmust_yes k s b1 _ HA3.out.2.1 HA3.out.1).mono ?_
    rintro e w4 ⟨rfl, rfl⟩
    go_wp2_with (first | (refine wpList_load_midg (by rfl) 30 _ rfl _ _ rfl (Pk.Pc.cells ?_) _ ?_ Tryz.underlying30 rfl (Pk.pcinfo _) ?_; rotate_left; (focus assumption)) | (refine wpList_store_blk rfl 30 _ _ rfl W.heap.size 30 Pk.zc y.cells.toArray rfl rfl bg (Pk.pcinfoA _) (Pk.pc_siz _) (Pk.pc_one _) ?_; intro hrow))
    refine bodyPost_row (t := 30) y.cells.toArray rfl rfl rfl Tryz.underlying30 rfl (Pk.pcinfoA _) hrow ?_
    have hf : ∀ j, j ≠ W.heap.size → (w3.setRow W.heap.size y.cells.toArray).heap[j]? = w3.heap[j]? := fun j hj => setRow_other w3 W.heap.size j _ hj
    have hz : (w3.setRow W.heap.size y.cells.toArray).heap.size = w3.heap.size := by simp
    exact ⟨HA3.out.2.2.2.1.turn (Nat.le_refl _) rfl rfl rfl (Nat.le_of_eq hz.symm) hf, by rw [HE.out]; exact ⟨⟨A2, c2, by rw [HYE.out], by rw [← HYE.out]; exact pc_far (cs := zx.cells) HA3.out.2.2.2.2 HA3.out.2.2.1 (pc_nou zx) hf (Nat.le_of_eq hz.symm), HLW.out⟩, HA3.out.1.turn (Nat.le_of_eq hz.symm) hf HG.out HL.out⟩⟩
end In
end Go.Proofs.YtgnfachjobohoaaGreat

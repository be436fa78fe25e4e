/-
msg: putStance, Write; the makers.
-/
import Derived.Test.YtkigaclcmodjaaaMs3
namespace Go.Proofs.Ytkigaclcmodjaaa
open Go.RowKit
set_option linter.unusedSimpArgs false
set_option linter.unusedVariables false
namespace Mg
/-- A stance's bytes. -/
def encSt (s : St) : List Nat := if s.h then enc 1 ++ enc s.t ++ encV s.f else enc 0
structure St.Ok (s : St) : Prop where
  t : s.t < 18446744073709551616
  f : ∀ i, s.f i < 4294967296
theorem blk_below {B k : Nat} {t : TypeId} {W W' : World} {cs : Array Value} (h : Blk W k t cs) (hb : Below B W W') (hk : k < B) : Blk W' k t cs := (hb.block k hk).trans h
set_option maxHeartbeats 4000000 in
set_option maxRecDepth 20000 in
theorem putstance_any (B g : Nat) (s : St) (bs : List Nat) (W : World) (h : Wtr W B g bs) (hx : St.Ok s) (hlen : bs.length + 300 ≤ 140737488355328) :
    Calls Try.prog 33 #[.pointer (some ⟨g, 0, none⟩), .agg s.cells.toArray] W fun e W' => e = .returned (.tuple #[]) ∧ Wtr W' B g (bs ++ encSt s) ∧ Wrote B g W W' := by
  have hb := (Below.refl W.heap.size W).alloc (Nat.le_refl _) (.cells s.cells.toArray 33)
  have HX0 := Lib.hid (BoxT.new (t := 33) h s.cells.toArray)
  have b0 := HX0.out.1
  obtain ⟨-, rv, q0, q1⟩ := st_all b0
  have HW0 := Lib.hid (h.next hb)
  have HR0 := Lib.hid (Wrote.ofBelow hb (Nat.le_trans h.1 (Nat.le_of_lt h.lt)) h.lt)
  have HX := Lib.hid hx
  have HL := Lib.hid hlen
  unfold encSt
  clear h hb b0 hx hlen
  cases hh : s.h with
  | false =>
    rw [hh] at q0
    clear hh rv q1
    go_enter Try.func33, Try.ntmps33
    go_wp2_with (go_at_call 26; refine (wnum_any B g 0 bs _ HW0.out (by decide) (by have := HL.out; omega)).mono ?_; rintro e W1 ⟨rfl, hw, hr⟩; have HW1 := Lib.hid hw; have HR1 := Lib.hid (HR0.out.trans hr); clear hw hr)
    exact ⟨rfl, .tuple #[], by simp [results, Try.results33, go_sem], rfl, HW1.out, HR1.out⟩
  | true =>
    rw [hh] at q0
    clear hh
    go_enter Try.func33, Try.ntmps33
    go_upto_region 1 with fail
    obtain ⟨w1, hw1⟩ : ∃ w1, w1 = W.alloc (.cells s.cells.toArray 33) := ⟨_, rfl⟩
    rw [← hw1] at HW0 HR0 HX0 rv q0 q1 ⊢
    clear hw1
    go_upto_region 3 with fail
    clear q0
    refine wp_region_tree (S := (fun w' => w'.cell? ⟨W.heap.size, 1, none⟩ = some (.int .u64 (s.t : Nat)) ∧ w'.rangeAt W.heap.size 2 (vl s.f))) (.take 0 (.take 2 (.take 3 (.take 5 (.take 6 (.one 1 (.one 4 (.one 7 .nil)))))))) 9999 (by kernel_rfl) (by kernel_rfl) (by kernel_rfl) (by kernel_rfl) (by kernel_rfl) (fun _ _ d _ _ h => by cases d <;> exact h) ⟨q1, rv⟩ (fun hHeld => ?_); simp only [Tree.map, List.getElem?_toArray, List.getElem?_cons_zero, List.getElem?_cons_succ]
    (repeat (first | (refine wpTree.take (v := undef) (Or.inr ⟨by rfl, rfl⟩) ?_; simp only [Act.put, List.setIfInBounds_toArray, List.set_cons_zero, List.set_cons_succ]) | (refine wpTree.take (v := .agg (vl ?_).toArray) (yieldsIf_load_mid rfl 25 _ rfl _ _ rfl (vl _) _ ?_ Try.underlying25 rfl (vinfoL _)) ?_; rotate_left; (focus (intro _ hS; (try dsimp only at hS); go_split_ands; (first | assumption | exact Blk.range (by assumption)))); simp only [Act.put, List.setIfInBounds_toArray, List.set_cons_zero, List.set_cons_succ]) | (refine wpTree.take (v := ?_) (Or.inl ⟨by rfl, ?_⟩) ?_; rotate_left; (focus (intro _ hS; (try dsimp only at hS); go_split_ands; (try subst hS); go_simp; (try (with_reducible rfl)); done)); simp only [Act.put, List.setIfInBounds_toArray, List.set_cons_zero, List.set_cons_succ])))
    refine wpTree.one (fun K hK => ?_)
    go_simp
    go_at_call 26
    refine (wnum_any B g 1 bs _ (show Wtr w1.drew B g bs from HW0.out) (by decide) (by have := HL.out; omega)).mono ?_
    rintro e W2 ⟨rfl, hw, hr⟩
    have HW2 := Lib.hid hw
    have HR2 := Lib.hid ((show Wrote B g W w1.drew from ⟨HR0.out.1.drew, HR0.out.2.1, HR0.out.2.2⟩).trans hr)
    have HX2 := Lib.hid ((show BoxT 33 w1.drew W.heap.size g s.cells.toArray from HX0.out).wrote hr)
    obtain ⟨-, rv2, -, q22⟩ := st_all HX2.out.1
    refine hK.out _ _ ⟨q22, rv2⟩ (fun _ => ?_)
    clear hK K hw hr rv2 q22 hHeld
    (try simp only [Act.put, List.setIfInBounds_toArray, List.set_cons_zero, List.set_cons_succ])
    refine wpTree.one (fun K hK => ?_)
    go_simp
    go_at_call 26
    refine (wnum_any B g s.t (bs ++ enc 1) _ HW2.out HX.out.t (by have := HL.out; have := enc_len 1 (by decide); simp only [List.length_append]; omega)).mono ?_
    rintro e W3 ⟨rfl, hw, hr⟩
    have HW3 := Lib.hid hw
    have HR3 := Lib.hid (HR2.out.trans hr)
    have HX3 := Lib.hid (HX2.out.wrote hr)
    obtain ⟨-, rv2, -, q22⟩ := st_all HX3.out.1
    refine hK.out _ _ ⟨q22, rv2⟩ (fun _ => ?_)
    clear hK K hw hr rv2 q22
    (try simp only [Act.put, List.setIfInBounds_toArray, List.set_cons_zero, List.set_cons_succ])
    refine wpTree.one (fun K hK => ?_)
    go_simp
    go_at_call 48
    refine (wvector_any B g s.f (bs ++ enc 1 ++ enc s.t) _ HW3.out HX.out.f (by have := HL.out; have := enc_len 1 (by decide); have := enc_len s.t HX.out.t; simp only [List.length_append]; omega)).mono ?_
    rintro e W4 ⟨rfl, hw, hr⟩
    have HW4 := Lib.hid hw
    have HR4 := Lib.hid (HR3.out.trans hr)
    have HX4 := Lib.hid (HX3.out.wrote hr)
    obtain ⟨-, rv2, -, q22⟩ := st_all HX4.out.1
    refine hK.out _ _ ⟨q22, rv2⟩ (fun _ => ?_)
    clear hK K hw hr rv2 q22
    (try simp only [Act.put, List.setIfInBounds_toArray, List.set_cons_zero, List.set_cons_succ])
    refine wpTree.done ?_
    go_wp2_with fail
    exact ⟨rfl, .tuple #[], by simp [results, Try.results33, go_sem], rfl, by simpa only [if_true, List.append_assoc] using HW4.out, HR4.out⟩
structure Ms.Ok (m : Ms) : Prop where
  l : ∀ i, m.l.f i < 4294967296
  x : ∀ i, m.x.l.f i < 4294967296
  p : m.x.o.p < 18446744073709551616
  s : St.Ok m.s
/-- A message's bytes. -/
def encM (m : Ms) : List Nat := enc (wordN m.k) ++ ((if hl m.k then encL m.l else []) ++ ((if hev m.k then encE m.x else []) ++ ((if hse m.k then enc (wordN m.se) else []) ++ ((if hst m.k then enc (wordN m.ca) ++ (enc (wordN m.ro) ++ encSt m.s) else []) ++ (if hco m.k then enc (wordN m.co) else [])))))
theorem body_of {m : Ms} (h : rightM m = true) : bodyM m = true := by unfold rightM at h; simp only [Bool.and_eq_true] at h; exact h.2
set_option maxRecDepth 20000 in
set_option maxHeartbeats 4000000 in
theorem ms_write_no (m : Ms) (W : World) (hr : rightM m = false) : Calls Try.prog 18 #[.agg m.cells.toArray] W fun e W' => e = .returned (.tuple #[.slice none 0 0, .int .i64 3]) ∧ Below W.heap.size W W' := by
  have bA := Blk.new W 50 m.cells.toArray
  have hB0 := Lib.hid ((Below.refl W.heap.size W).alloc (Nat.le_refl _) (.cells m.cells.toArray 50))
  have rx := bA.range
  clear bA
  go_enter Try.func18, Try.ntmps18
  go_wp2_with (first | (refine wpList_load_midg (by rfl) 50 _ rfl _ _ rfl (Ms.cells ?_) _ ?_ Try.underlying50 rfl (msinfo _) ?_; rotate_left; (focus assumption)) | (go_at_call 24; refine (right_any _ _).mono ?_; rintro e W1 ⟨rfl, hb⟩; rw [hr]; have HF := Lib.hid (hB0.out.trans (hb.mono hB0.out.size)); clear hb))
  refine bodyPost_ret (v := .tuple #[.slice none 0 0, .int .i64 3]) (by simp [results, Try.results18, go_sem]) rfl ⟨rfl, HF.out⟩
set_option maxRecDepth 20000 in
set_option maxHeartbeats 8000000 in
theorem write_lab (m : Ms) (W : World) (hr : rightM m = true) (ho : Ms.Ok m) (h1 : hl m.k = true) (h2 : hev m.k = false) (h3 : hse m.k = false) (h4 : hst m.k = false) (h5 : hco m.k = false) : Calls Try.prog 18 #[.agg m.cells.toArray] W fun e W' => ∃ v, e = .returned (.tuple #[v, .int .i64 0]) ∧ W'.ownsRow W.heap.size 5 1 v (encM m).length (u8s (encM m)) ∧ Below W.heap.size W W' := by
  have bA := Blk.new W 50 m.cells.toArray
  have hB0 := Lib.hid ((Below.refl W.heap.size W).alloc (Nat.le_refl _) (.cells m.cells.toArray 50))
  have rx := bA.range
  have HX := Lib.hid bA
  have HO := Lib.hid ho
  have HBO := Lib.hid (body_of hr)
  have HEN := Lib.hid (show encM m = enc (wordN m.k) ++ encL m.l by unfold encM; rw [h1, h2, h3, h4, h5]; simp)
  have HLE := Lib.hid (And.intro (enc_len _ (wordN_lt m.k)) (And.intro (enc_len _ (wordN_lt m.se)) (And.intro (enc_len _ (wordN_lt m.co)) (And.intro (enc_len _ (wordN_lt m.ca)) (enc_len _ (wordN_lt m.ro))))))
  have wk := wrap_word m.k
  clear bA ho
  go_enter Try.func18, Try.ntmps18
  go_upto_region 3 with (first | (refine wpList_load_midg (by rfl) 50 _ rfl _ _ rfl (Ms.cells ?_) _ ?_ Try.underlying50 rfl (msinfo _) ?_; rotate_left; (focus assumption)) | (go_at_call 24; refine (right_any _ _).mono ?_; rintro e W1 ⟨rfl, hb⟩; rw [hr]; have HB1 := Lib.hid (hB0.out.trans (hb.mono hB0.out.size)); have HX1 := Lib.hid (HX.out.next hb); clear hb rx))
  have hlt1 := HX1.out.lt
  obtain ⟨_, _, _, _, c0, _, _, _, _⟩ := ms_all HX1.out
  clear hr hB0 HX
  refine wp_region_tree (S := (fun w' => w'.cell? ⟨W.heap.size, 0, none⟩ = some (.int .i64 m.k))) (.take 1 (.take 2 (.take 3 (.one 0 (.one 4 (.take 5 .nil)))))) 9999 (by kernel_rfl) (by kernel_rfl) (by kernel_rfl) (by kernel_rfl) (by kernel_rfl) (fun _ _ d _ _ h => by cases d <;> exact h) c0 (fun hHeld => ?_); simp only [Tree.map, List.getElem?_toArray, List.getElem?_cons_zero, List.getElem?_cons_succ]
  (repeat (first | (refine wpTree.take (v := undef) (Or.inr ⟨by rfl, rfl⟩) ?_; simp only [Act.put, List.setIfInBounds_toArray, List.set_cons_zero, List.set_cons_succ]) | (refine wpTree.take (v := ?_) (Or.inl ⟨by rfl, ?_⟩) ?_; rotate_left; (focus (intro _ hS; (try dsimp only at hS); go_split_ands; (try subst hS); go_simp; (try (with_reducible rfl)); done)); simp only [Act.put, List.setIfInBounds_toArray, List.set_cons_zero, List.set_cons_succ])))
  refine wpTree.one (fun K hK => ?_)
  go_simp
  go_at_call 25
  refine (new_any W1.drew).mono ?_
  rintro e w2 ⟨rfl, hw, hb⟩
  obtain ⟨B, hBe⟩ : ∃ B, B = W1.drew.heap.size := ⟨_, rfl⟩
  have hBl : W.heap.size < B := by rw [hBe]; exact hlt1
  have hb2 : Below W1.heap.size W1 w2 := (Below.refl _ _).drew.trans hb
  have HB2 := Lib.hid (HB1.out.trans (hb2.mono HB1.out.size))
  have HX2 := Lib.hid (HX1.out.next hb2)
  rw [← hBe] at hw ⊢
  have HW2 := Lib.hid hw
  have HBL := Lib.hid hBl
  have c02 := (ms_all HX2.out).2.2.2.2.1
  refine hK.out _ _ c02 (fun _ => ?_)
  clear hK K hHeld hw hb hb2 hBe hlt1 c0 hBl HX1 HB1
  (try simp only [Act.put, List.setIfInBounds_toArray, List.set_cons_zero, List.set_cons_succ])
  refine wpTree.one (fun K hK => ?_)
  go_simp
  go_at_call 26
  refine (wnum_any B B (wordN m.k) [] w2 HW2.out (wordN_lt _) (by decide)).mono ?_
  rintro e w3 ⟨rfl, hw, hr⟩
  have HB3 := Lib.hid (HB2.out.trans (hr.1.mono (Nat.le_of_lt HBL.out)))
  have HX3 := Lib.hid (blk_below HX2.out hr.1 HBL.out)
  have HW3 := Lib.hid (show Wtr w3 B B (enc (wordN m.k)) by simpa using hw)
  obtain ⟨_, rl, rx, rs, c0, c1, c2, c3, c4⟩ := ms_all HX3.out
  refine hK.out _ _ c0 (fun _ => ?_)
  clear hK K hw hr c02 HB2 HX2 HW2 wk
  (try simp only [Act.put, List.setIfInBounds_toArray, List.set_cons_zero, List.set_cons_succ])
  (repeat (first | (refine wpTree.take (v := undef) (Or.inr ⟨by rfl, rfl⟩) ?_; simp only [Act.put, List.setIfInBounds_toArray, List.set_cons_zero, List.set_cons_succ]) | (refine wpTree.take (v := ?_) (Or.inl ⟨by rfl, ?_⟩) ?_; rotate_left; (focus (intro _ hS; (try dsimp only at hS); go_split_ands; (try subst hS); go_simp; (try (with_reducible rfl)); done)); simp only [Act.put, List.setIfInBounds_toArray, List.set_cons_zero, List.set_cons_succ])))
  refine wpTree.done ?_
  clear rx rs c1 c2 c3 c4
  have hR : rightL m.l = true := by have := HBO.out; unfold bodyM at this; rw [h1] at this; exact this
  have HLL := Lib.hid (encL_len hR HO.out.l)
  go_wp2_with (first | (go_at_call 27; refine (haslabel_any _ _).mono ?_; rintro e wh ⟨rfl, rfl⟩; rw [h1]) | (go_at_call 29; refine (hasevent_any _ _).mono ?_; rintro e wh ⟨rfl, rfl⟩; rw [h2]) | (go_at_call 31; refine (hasseller_any _ _).mono ?_; rintro e wh ⟨rfl, rfl⟩; rw [h3]) | (go_at_call 32; refine (hasstance_any _ _).mono ?_; rintro e wh ⟨rfl, rfl⟩; rw [h4]) | (go_at_call 34; refine (hascount_any _ _).mono ?_; rintro e wh ⟨rfl, rfl⟩; rw [h5]) | (refine wpList_load_midg (by rfl) 27 _ rfl _ _ rfl (Lab.cells ?_) _ ?_ Try.underlying27 rfl (linfo _) ?_; rotate_left; (focus assumption)))
  refine (lput_lab B B m.l (enc (wordN m.k)) w3 HW3.out hR HO.out.l (by (try simp only [List.length_append]); have := HLE.out; omega)).mono ?_
  rintro e w4 ⟨rfl, hw, hr⟩
  have HB4 := Lib.hid (HB3.out.trans (hr.1.mono (Nat.le_of_lt HBL.out)))
  have HX4 := Lib.hid (blk_below HX3.out hr.1 HBL.out)
  have HW4 := Lib.hid hw
  clear hw hr rl c0 HX3 HB3 HW3
  obtain ⟨_, rl, rx, rs, c0, c1, c2, c3, c4⟩ := ms_all HX4.out
  clear rl rx rs c1 c2 c3 c4
  go_wp2_with (first | (go_at_call 27; refine (haslabel_any _ _).mono ?_; rintro e wh ⟨rfl, rfl⟩; rw [h1]) | (go_at_call 29; refine (hasevent_any _ _).mono ?_; rintro e wh ⟨rfl, rfl⟩; rw [h2]) | (go_at_call 31; refine (hasseller_any _ _).mono ?_; rintro e wh ⟨rfl, rfl⟩; rw [h3]) | (go_at_call 32; refine (hasstance_any _ _).mono ?_; rintro e wh ⟨rfl, rfl⟩; rw [h4]) | (go_at_call 34; refine (hascount_any _ _).mono ?_; rintro e wh ⟨rfl, rfl⟩; rw [h5]))
  have hlen : (encM m).length + 16 ≤ 140737488355328 := by rw [HEN.out]; simp only [List.length_append]; have := HLE.out; have := HLL.out; omega
  refine (bytes_any B B (encM m) _ (by rw [HEN.out]; first | exact HW4.out | simpa only [List.append_assoc] using HW4.out) (by omega)).mono ?_
  rintro e w9 ⟨v9, rfl, hown, hb⟩
  have HB9 := Lib.hid (HB4.out.trans (hb.mono HB4.out.size))
  have HO9 := Lib.hid hown
  clear hown hb hlen
  go_wp2_with fail
  refine bodyPost_ret (v := .tuple #[v9, .int .i64 0]) (by simp [results, Try.results18, go_sem]) rfl ⟨v9, rfl, own_le HO9.out HB4.out.size, HB9.out⟩
set_option maxRecDepth 20000 in
set_option maxHeartbeats 8000000 in
theorem write_ev (m : Ms) (W : World) (hr : rightM m = true) (ho : Ms.Ok m) (h1 : hl m.k = false) (h2 : hev m.k = true) (h3 : hse m.k = false) (h4 : hst m.k = false) (h5 : hco m.k = false) : Calls Try.prog 18 #[.agg m.cells.toArray] W fun e W' => ∃ v, e = .returned (.tuple #[v, .int .i64 0]) ∧ W'.ownsRow W.heap.size 5 1 v (encM m).length (u8s (encM m)) ∧ Below W.heap.size W W' := by
  have bA := Blk.new W 50 m.cells.toArray
  have hB0 := Lib.hid ((Below.refl W.heap.size W).alloc (Nat.le_refl _) (.cells m.cells.toArray 50))
  have rx := bA.range
  have HX := Lib.hid bA
  have HO := Lib.hid ho
  have HBO := Lib.hid (body_of hr)
  have HEN := Lib.hid (show encM m = enc (wordN m.k) ++ encE m.x by unfold encM; rw [h1, h2, h3, h4, h5]; simp)
  have HLE := Lib.hid (And.intro (enc_len _ (wordN_lt m.k)) (And.intro (enc_len _ (wordN_lt m.se)) (And.intro (enc_len _ (wordN_lt m.co)) (And.intro (enc_len _ (wordN_lt m.ca)) (enc_len _ (wordN_lt m.ro))))))
  have wk := wrap_word m.k
  clear bA ho
  go_enter Try.func18, Try.ntmps18
  go_upto_region 3 with (first | (refine wpList_load_midg (by rfl) 50 _ rfl _ _ rfl (Ms.cells ?_) _ ?_ Try.underlying50 rfl (msinfo _) ?_; rotate_left; (focus assumption)) | (go_at_call 24; refine (right_any _ _).mono ?_; rintro e W1 ⟨rfl, hb⟩; rw [hr]; have HB1 := Lib.hid (hB0.out.trans (hb.mono hB0.out.size)); have HX1 := Lib.hid (HX.out.next hb); clear hb rx))
  have hlt1 := HX1.out.lt
  obtain ⟨_, _, _, _, c0, _, _, _, _⟩ := ms_all HX1.out
  clear hr hB0 HX
  refine wp_region_tree (S := (fun w' => w'.cell? ⟨W.heap.size, 0, none⟩ = some (.int .i64 m.k))) (.take 1 (.take 2 (.take 3 (.one 0 (.one 4 (.take 5 .nil)))))) 9999 (by kernel_rfl) (by kernel_rfl) (by kernel_rfl) (by kernel_rfl) (by kernel_rfl) (fun _ _ d _ _ h => by cases d <;> exact h) c0 (fun hHeld => ?_); simp only [Tree.map, List.getElem?_toArray, List.getElem?_cons_zero, List.getElem?_cons_succ]
  (repeat (first | (refine wpTree.take (v := undef) (Or.inr ⟨by rfl, rfl⟩) ?_; simp only [Act.put, List.setIfInBounds_toArray, List.set_cons_zero, List.set_cons_succ]) | (refine wpTree.take (v := ?_) (Or.inl ⟨by rfl, ?_⟩) ?_; rotate_left; (focus (intro _ hS; (try dsimp only at hS); go_split_ands; (try subst hS); go_simp; (try (with_reducible rfl)); done)); simp only [Act.put, List.setIfInBounds_toArray, List.set_cons_zero, List.set_cons_succ])))
  refine wpTree.one (fun K hK => ?_)
  go_simp
  go_at_call 25
  refine (new_any W1.drew).mono ?_
  rintro e w2 ⟨rfl, hw, hb⟩
  obtain ⟨B, hBe⟩ : ∃ B, B = W1.drew.heap.size := ⟨_, rfl⟩
  have hBl : W.heap.size < B := by rw [hBe]; exact hlt1
  have hb2 : Below W1.heap.size W1 w2 := (Below.refl _ _).drew.trans hb
  have HB2 := Lib.hid (HB1.out.trans (hb2.mono HB1.out.size))
  have HX2 := Lib.hid (HX1.out.next hb2)
  rw [← hBe] at hw ⊢
  have HW2 := Lib.hid hw
  have HBL := Lib.hid hBl
  have c02 := (ms_all HX2.out).2.2.2.2.1
  refine hK.out _ _ c02 (fun _ => ?_)
  clear hK K hHeld hw hb hb2 hBe hlt1 c0 hBl HX1 HB1
  (try simp only [Act.put, List.setIfInBounds_toArray, List.set_cons_zero, List.set_cons_succ])
  refine wpTree.one (fun K hK => ?_)
  go_simp
  go_at_call 26
  refine (wnum_any B B (wordN m.k) [] w2 HW2.out (wordN_lt _) (by decide)).mono ?_
  rintro e w3 ⟨rfl, hw, hr⟩
  have HB3 := Lib.hid (HB2.out.trans (hr.1.mono (Nat.le_of_lt HBL.out)))
  have HX3 := Lib.hid (blk_below HX2.out hr.1 HBL.out)
  have HW3 := Lib.hid (show Wtr w3 B B (enc (wordN m.k)) by simpa using hw)
  obtain ⟨_, rl, rx, rs, c0, c1, c2, c3, c4⟩ := ms_all HX3.out
  refine hK.out _ _ c0 (fun _ => ?_)
  clear hK K hw hr c02 HB2 HX2 HW2 wk
  (try simp only [Act.put, List.setIfInBounds_toArray, List.set_cons_zero, List.set_cons_succ])
  (repeat (first | (refine wpTree.take (v := undef) (Or.inr ⟨by rfl, rfl⟩) ?_; simp only [Act.put, List.setIfInBounds_toArray, List.set_cons_zero, List.set_cons_succ]) | (refine wpTree.take (v := ?_) (Or.inl ⟨by rfl, ?_⟩) ?_; rotate_left; (focus (intro _ hS; (try dsimp only at hS); go_split_ands; (try subst hS); go_simp; (try (with_reducible rfl)); done)); simp only [Act.put, List.setIfInBounds_toArray, List.set_cons_zero, List.set_cons_succ])))
  refine wpTree.done ?_
  clear rl rs c1 c2 c3 c4
  have hR : rightE m.x = true := by have := HBO.out; unfold bodyM at this; rw [h1, h2] at this; exact this
  have HLL := Lib.hid (show (encE m.x).length ≤ 300 by unfold encE; rw [List.length_append]; have := encL_len (rightE_parts hR).1 HO.out.x; have := encO_len (may_ok (rightE_parts hR).2 HO.out.p); omega)
  go_wp2_with (first | (go_at_call 27; refine (haslabel_any _ _).mono ?_; rintro e wh ⟨rfl, rfl⟩; rw [h1]) | (go_at_call 29; refine (hasevent_any _ _).mono ?_; rintro e wh ⟨rfl, rfl⟩; rw [h2]) | (go_at_call 31; refine (hasseller_any _ _).mono ?_; rintro e wh ⟨rfl, rfl⟩; rw [h3]) | (go_at_call 32; refine (hasstance_any _ _).mono ?_; rintro e wh ⟨rfl, rfl⟩; rw [h4]) | (go_at_call 34; refine (hascount_any _ _).mono ?_; rintro e wh ⟨rfl, rfl⟩; rw [h5]) | (refine wpList_load_midg (by rfl) 48 _ rfl _ _ rfl (Ev.cells ?_) _ ?_ Try.underlying48 rfl (einfo _) ?_; rotate_left; (focus assumption)))
  refine (evput_any B B m.x (enc (wordN m.k)) w3 HW3.out hR HO.out.x HO.out.p (by (try simp only [List.length_append]); have := HLE.out; omega)).mono ?_
  rintro e w4 ⟨rfl, hw, hr⟩
  have HB4 := Lib.hid (HB3.out.trans (hr.1.mono (Nat.le_of_lt HBL.out)))
  have HX4 := Lib.hid (blk_below HX3.out hr.1 HBL.out)
  have HW4 := Lib.hid hw
  clear hw hr rx c0 HX3 HB3 HW3
  obtain ⟨_, rl, rx, rs, c0, c1, c2, c3, c4⟩ := ms_all HX4.out
  clear rl rx rs c1 c2 c3 c4
  go_wp2_with (first | (go_at_call 27; refine (haslabel_any _ _).mono ?_; rintro e wh ⟨rfl, rfl⟩; rw [h1]) | (go_at_call 29; refine (hasevent_any _ _).mono ?_; rintro e wh ⟨rfl, rfl⟩; rw [h2]) | (go_at_call 31; refine (hasseller_any _ _).mono ?_; rintro e wh ⟨rfl, rfl⟩; rw [h3]) | (go_at_call 32; refine (hasstance_any _ _).mono ?_; rintro e wh ⟨rfl, rfl⟩; rw [h4]) | (go_at_call 34; refine (hascount_any _ _).mono ?_; rintro e wh ⟨rfl, rfl⟩; rw [h5]))
  have hlen : (encM m).length + 16 ≤ 140737488355328 := by rw [HEN.out]; simp only [List.length_append]; have := HLE.out; have := HLL.out; omega
  refine (bytes_any B B (encM m) _ (by rw [HEN.out]; first | exact HW4.out | simpa only [List.append_assoc] using HW4.out) (by omega)).mono ?_
  rintro e w9 ⟨v9, rfl, hown, hb⟩
  have HB9 := Lib.hid (HB4.out.trans (hb.mono HB4.out.size))
  have HO9 := Lib.hid hown
  clear hown hb hlen
  go_wp2_with fail
  refine bodyPost_ret (v := .tuple #[v9, .int .i64 0]) (by simp [results, Try.results18, go_sem]) rfl ⟨v9, rfl, own_le HO9.out HB4.out.size, HB9.out⟩
set_option maxRecDepth 20000 in
set_option maxHeartbeats 8000000 in
theorem write_sel (m : Ms) (W : World) (hr : rightM m = true) (ho : Ms.Ok m) (h1 : hl m.k = false) (h2 : hev m.k = false) (h3 : hse m.k = true) (h4 : hst m.k = false) (h5 : hco m.k = false) : Calls Try.prog 18 #[.agg m.cells.toArray] W fun e W' => ∃ v, e = .returned (.tuple #[v, .int .i64 0]) ∧ W'.ownsRow W.heap.size 5 1 v (encM m).length (u8s (encM m)) ∧ Below W.heap.size W W' := by
  have bA := Blk.new W 50 m.cells.toArray
  have hB0 := Lib.hid ((Below.refl W.heap.size W).alloc (Nat.le_refl _) (.cells m.cells.toArray 50))
  have rx := bA.range
  have HX := Lib.hid bA
  have HO := Lib.hid ho
  have HBO := Lib.hid (body_of hr)
  have HEN := Lib.hid (show encM m = enc (wordN m.k) ++ enc (wordN m.se) by unfold encM; rw [h1, h2, h3, h4, h5]; simp)
  have HLE := Lib.hid (And.intro (enc_len _ (wordN_lt m.k)) (And.intro (enc_len _ (wordN_lt m.se)) (And.intro (enc_len _ (wordN_lt m.co)) (And.intro (enc_len _ (wordN_lt m.ca)) (enc_len _ (wordN_lt m.ro))))))
  have wk := wrap_word m.k
  clear bA ho
  go_enter Try.func18, Try.ntmps18
  go_upto_region 3 with (first | (refine wpList_load_midg (by rfl) 50 _ rfl _ _ rfl (Ms.cells ?_) _ ?_ Try.underlying50 rfl (msinfo _) ?_; rotate_left; (focus assumption)) | (go_at_call 24; refine (right_any _ _).mono ?_; rintro e W1 ⟨rfl, hb⟩; rw [hr]; have HB1 := Lib.hid (hB0.out.trans (hb.mono hB0.out.size)); have HX1 := Lib.hid (HX.out.next hb); clear hb rx))
  have hlt1 := HX1.out.lt
  obtain ⟨_, _, _, _, c0, _, _, _, _⟩ := ms_all HX1.out
  clear hr hB0 HX
  refine wp_region_tree (S := (fun w' => w'.cell? ⟨W.heap.size, 0, none⟩ = some (.int .i64 m.k))) (.take 1 (.take 2 (.take 3 (.one 0 (.one 4 (.take 5 .nil)))))) 9999 (by kernel_rfl) (by kernel_rfl) (by kernel_rfl) (by kernel_rfl) (by kernel_rfl) (fun _ _ d _ _ h => by cases d <;> exact h) c0 (fun hHeld => ?_); simp only [Tree.map, List.getElem?_toArray, List.getElem?_cons_zero, List.getElem?_cons_succ]
  (repeat (first | (refine wpTree.take (v := undef) (Or.inr ⟨by rfl, rfl⟩) ?_; simp only [Act.put, List.setIfInBounds_toArray, List.set_cons_zero, List.set_cons_succ]) | (refine wpTree.take (v := ?_) (Or.inl ⟨by rfl, ?_⟩) ?_; rotate_left; (focus (intro _ hS; (try dsimp only at hS); go_split_ands; (try subst hS); go_simp; (try (with_reducible rfl)); done)); simp only [Act.put, List.setIfInBounds_toArray, List.set_cons_zero, List.set_cons_succ])))
  refine wpTree.one (fun K hK => ?_)
  go_simp
  go_at_call 25
  refine (new_any W1.drew).mono ?_
  rintro e w2 ⟨rfl, hw, hb⟩
  obtain ⟨B, hBe⟩ : ∃ B, B = W1.drew.heap.size := ⟨_, rfl⟩
  have hBl : W.heap.size < B := by rw [hBe]; exact hlt1
  have hb2 : Below W1.heap.size W1 w2 := (Below.refl _ _).drew.trans hb
  have HB2 := Lib.hid (HB1.out.trans (hb2.mono HB1.out.size))
  have HX2 := Lib.hid (HX1.out.next hb2)
  rw [← hBe] at hw ⊢
  have HW2 := Lib.hid hw
  have HBL := Lib.hid hBl
  have c02 := (ms_all HX2.out).2.2.2.2.1
  refine hK.out _ _ c02 (fun _ => ?_)
  clear hK K hHeld hw hb hb2 hBe hlt1 c0 hBl HX1 HB1
  (try simp only [Act.put, List.setIfInBounds_toArray, List.set_cons_zero, List.set_cons_succ])
  refine wpTree.one (fun K hK => ?_)
  go_simp
  go_at_call 26
  refine (wnum_any B B (wordN m.k) [] w2 HW2.out (wordN_lt _) (by decide)).mono ?_
  rintro e w3 ⟨rfl, hw, hr⟩
  have HB3 := Lib.hid (HB2.out.trans (hr.1.mono (Nat.le_of_lt HBL.out)))
  have HX3 := Lib.hid (blk_below HX2.out hr.1 HBL.out)
  have HW3 := Lib.hid (show Wtr w3 B B (enc (wordN m.k)) by simpa using hw)
  obtain ⟨_, rl, rx, rs, c0, c1, c2, c3, c4⟩ := ms_all HX3.out
  refine hK.out _ _ c0 (fun _ => ?_)
  clear hK K hw hr c02 HB2 HX2 HW2 wk
  (try simp only [Act.put, List.setIfInBounds_toArray, List.set_cons_zero, List.set_cons_succ])
  (repeat (first | (refine wpTree.take (v := undef) (Or.inr ⟨by rfl, rfl⟩) ?_; simp only [Act.put, List.setIfInBounds_toArray, List.set_cons_zero, List.set_cons_succ]) | (refine wpTree.take (v := ?_) (Or.inl ⟨by rfl, ?_⟩) ?_; rotate_left; (focus (intro _ hS; (try dsimp only at hS); go_split_ands; (try subst hS); go_simp; (try (with_reducible rfl)); done)); simp only [Act.put, List.setIfInBounds_toArray, List.set_cons_zero, List.set_cons_succ])))
  refine wpTree.done ?_
  clear rl rx rs c2 c3 c4
  have ws := wrap_word m.se
  go_wp2_with (first | (go_at_call 27; refine (haslabel_any _ _).mono ?_; rintro e wh ⟨rfl, rfl⟩; rw [h1]) | (go_at_call 29; refine (hasevent_any _ _).mono ?_; rintro e wh ⟨rfl, rfl⟩; rw [h2]) | (go_at_call 31; refine (hasseller_any _ _).mono ?_; rintro e wh ⟨rfl, rfl⟩; rw [h3]) | (go_at_call 32; refine (hasstance_any _ _).mono ?_; rintro e wh ⟨rfl, rfl⟩; rw [h4]) | (go_at_call 34; refine (hascount_any _ _).mono ?_; rintro e wh ⟨rfl, rfl⟩; rw [h5]))
  refine (wnum_any B B (wordN m.se) (enc (wordN m.k)) w3 HW3.out (wordN_lt _) (by (try simp only [List.length_append]); have := HLE.out; omega)).mono ?_
  rintro e w4 ⟨rfl, hw, hr⟩
  have HB4 := Lib.hid (HB3.out.trans (hr.1.mono (Nat.le_of_lt HBL.out)))
  have HX4 := Lib.hid (blk_below HX3.out hr.1 HBL.out)
  have HW4 := Lib.hid hw
  clear hw hr c1 c0 ws HX3 HB3 HW3
  obtain ⟨_, rl, rx, rs, c0, c1, c2, c3, c4⟩ := ms_all HX4.out
  clear rl rx rs c1 c2 c3 c4
  go_wp2_with (first | (go_at_call 27; refine (haslabel_any _ _).mono ?_; rintro e wh ⟨rfl, rfl⟩; rw [h1]) | (go_at_call 29; refine (hasevent_any _ _).mono ?_; rintro e wh ⟨rfl, rfl⟩; rw [h2]) | (go_at_call 31; refine (hasseller_any _ _).mono ?_; rintro e wh ⟨rfl, rfl⟩; rw [h3]) | (go_at_call 32; refine (hasstance_any _ _).mono ?_; rintro e wh ⟨rfl, rfl⟩; rw [h4]) | (go_at_call 34; refine (hascount_any _ _).mono ?_; rintro e wh ⟨rfl, rfl⟩; rw [h5]))
  have hlen : (encM m).length + 16 ≤ 140737488355328 := by rw [HEN.out]; simp only [List.length_append]; have := HLE.out; omega
  refine (bytes_any B B (encM m) _ (by rw [HEN.out]; first | exact HW4.out | simpa only [List.append_assoc] using HW4.out) (by omega)).mono ?_
  rintro e w9 ⟨v9, rfl, hown, hb⟩
  have HB9 := Lib.hid (HB4.out.trans (hb.mono HB4.out.size))
  have HO9 := Lib.hid hown
  clear hown hb hlen
  go_wp2_with fail
  refine bodyPost_ret (v := .tuple #[v9, .int .i64 0]) (by simp [results, Try.results18, go_sem]) rfl ⟨v9, rfl, own_le HO9.out HB4.out.size, HB9.out⟩
set_option maxRecDepth 20000 in
set_option maxHeartbeats 8000000 in
theorem write_en (m : Ms) (W : World) (hr : rightM m = true) (ho : Ms.Ok m) (h1 : hl m.k = false) (h2 : hev m.k = false) (h3 : hse m.k = true) (h4 : hst m.k = false) (h5 : hco m.k = true) : Calls Try.prog 18 #[.agg m.cells.toArray] W fun e W' => ∃ v, e = .returned (.tuple #[v, .int .i64 0]) ∧ W'.ownsRow W.heap.size 5 1 v (encM m).length (u8s (encM m)) ∧ Below W.heap.size W W' := by
  have bA := Blk.new W 50 m.cells.toArray
  have hB0 := Lib.hid ((Below.refl W.heap.size W).alloc (Nat.le_refl _) (.cells m.cells.toArray 50))
  have rx := bA.range
  have HX := Lib.hid bA
  have HO := Lib.hid ho
  have HBO := Lib.hid (body_of hr)
  have HEN := Lib.hid (show encM m = enc (wordN m.k) ++ (enc (wordN m.se) ++ enc (wordN m.co)) by unfold encM; rw [h1, h2, h3, h4, h5]; simp)
  have HLE := Lib.hid (And.intro (enc_len _ (wordN_lt m.k)) (And.intro (enc_len _ (wordN_lt m.se)) (And.intro (enc_len _ (wordN_lt m.co)) (And.intro (enc_len _ (wordN_lt m.ca)) (enc_len _ (wordN_lt m.ro))))))
  have wk := wrap_word m.k
  clear bA ho
  go_enter Try.func18, Try.ntmps18
  go_upto_region 3 with (first | (refine wpList_load_midg (by rfl) 50 _ rfl _ _ rfl (Ms.cells ?_) _ ?_ Try.underlying50 rfl (msinfo _) ?_; rotate_left; (focus assumption)) | (go_at_call 24; refine (right_any _ _).mono ?_; rintro e W1 ⟨rfl, hb⟩; rw [hr]; have HB1 := Lib.hid (hB0.out.trans (hb.mono hB0.out.size)); have HX1 := Lib.hid (HX.out.next hb); clear hb rx))
  have hlt1 := HX1.out.lt
  obtain ⟨_, _, _, _, c0, _, _, _, _⟩ := ms_all HX1.out
  clear hr hB0 HX
  refine wp_region_tree (S := (fun w' => w'.cell? ⟨W.heap.size, 0, none⟩ = some (.int .i64 m.k))) (.take 1 (.take 2 (.take 3 (.one 0 (.one 4 (.take 5 .nil)))))) 9999 (by kernel_rfl) (by kernel_rfl) (by kernel_rfl) (by kernel_rfl) (by kernel_rfl) (fun _ _ d _ _ h => by cases d <;> exact h) c0 (fun hHeld => ?_); simp only [Tree.map, List.getElem?_toArray, List.getElem?_cons_zero, List.getElem?_cons_succ]
  (repeat (first | (refine wpTree.take (v := undef) (Or.inr ⟨by rfl, rfl⟩) ?_; simp only [Act.put, List.setIfInBounds_toArray, List.set_cons_zero, List.set_cons_succ]) | (refine wpTree.take (v := ?_) (Or.inl ⟨by rfl, ?_⟩) ?_; rotate_left; (focus (intro _ hS; (try dsimp only at hS); go_split_ands; (try subst hS); go_simp; (try (with_reducible rfl)); done)); simp only [Act.put, List.setIfInBounds_toArray, List.set_cons_zero, List.set_cons_succ])))
  refine wpTree.one (fun K hK => ?_)
  go_simp
  go_at_call 25
  refine (new_any W1.drew).mono ?_
  rintro e w2 ⟨rfl, hw, hb⟩
  obtain ⟨B, hBe⟩ : ∃ B, B = W1.drew.heap.size := ⟨_, rfl⟩
  have hBl : W.heap.size < B := by rw [hBe]; exact hlt1
  have hb2 : Below W1.heap.size W1 w2 := (Below.refl _ _).drew.trans hb
  have HB2 := Lib.hid (HB1.out.trans (hb2.mono HB1.out.size))
  have HX2 := Lib.hid (HX1.out.next hb2)
  rw [← hBe] at hw ⊢
  have HW2 := Lib.hid hw
  have HBL := Lib.hid hBl
  have c02 := (ms_all HX2.out).2.2.2.2.1
  refine hK.out _ _ c02 (fun _ => ?_)
  clear hK K hHeld hw hb hb2 hBe hlt1 c0 hBl HX1 HB1
  (try simp only [Act.put, List.setIfInBounds_toArray, List.set_cons_zero, List.set_cons_succ])
  refine wpTree.one (fun K hK => ?_)
  go_simp
  go_at_call 26
  refine (wnum_any B B (wordN m.k) [] w2 HW2.out (wordN_lt _) (by decide)).mono ?_
  rintro e w3 ⟨rfl, hw, hr⟩
  have HB3 := Lib.hid (HB2.out.trans (hr.1.mono (Nat.le_of_lt HBL.out)))
  have HX3 := Lib.hid (blk_below HX2.out hr.1 HBL.out)
  have HW3 := Lib.hid (show Wtr w3 B B (enc (wordN m.k)) by simpa using hw)
  obtain ⟨_, rl, rx, rs, c0, c1, c2, c3, c4⟩ := ms_all HX3.out
  refine hK.out _ _ c0 (fun _ => ?_)
  clear hK K hw hr c02 HB2 HX2 HW2 wk
  (try simp only [Act.put, List.setIfInBounds_toArray, List.set_cons_zero, List.set_cons_succ])
  (repeat (first | (refine wpTree.take (v := undef) (Or.inr ⟨by rfl, rfl⟩) ?_; simp only [Act.put, List.setIfInBounds_toArray, List.set_cons_zero, List.set_cons_succ]) | (refine wpTree.take (v := ?_) (Or.inl ⟨by rfl, ?_⟩) ?_; rotate_left; (focus (intro _ hS; (try dsimp only at hS); go_split_ands; (try subst hS); go_simp; (try (with_reducible rfl)); done)); simp only [Act.put, List.setIfInBounds_toArray, List.set_cons_zero, List.set_cons_succ])))
  refine wpTree.done ?_
  clear rl rx rs c2 c3 c4
  have ws := wrap_word m.se
  go_wp2_with (first | (go_at_call 27; refine (haslabel_any _ _).mono ?_; rintro e wh ⟨rfl, rfl⟩; rw [h1]) | (go_at_call 29; refine (hasevent_any _ _).mono ?_; rintro e wh ⟨rfl, rfl⟩; rw [h2]) | (go_at_call 31; refine (hasseller_any _ _).mono ?_; rintro e wh ⟨rfl, rfl⟩; rw [h3]) | (go_at_call 32; refine (hasstance_any _ _).mono ?_; rintro e wh ⟨rfl, rfl⟩; rw [h4]) | (go_at_call 34; refine (hascount_any _ _).mono ?_; rintro e wh ⟨rfl, rfl⟩; rw [h5]))
  refine (wnum_any B B (wordN m.se) (enc (wordN m.k)) w3 HW3.out (wordN_lt _) (by (try simp only [List.length_append]); have := HLE.out; omega)).mono ?_
  rintro e w4 ⟨rfl, hw, hr⟩
  have HB4 := Lib.hid (HB3.out.trans (hr.1.mono (Nat.le_of_lt HBL.out)))
  have HX4 := Lib.hid (blk_below HX3.out hr.1 HBL.out)
  have HW4 := Lib.hid hw
  clear hw hr c1 c0 ws HX3 HB3 HW3
  obtain ⟨_, rl, rx, rs, c0, c1, c2, c3, c4⟩ := ms_all HX4.out
  clear rl rx rs c1 c3 c4
  have ws := wrap_word m.co
  go_wp2_with (first | (go_at_call 27; refine (haslabel_any _ _).mono ?_; rintro e wh ⟨rfl, rfl⟩; rw [h1]) | (go_at_call 29; refine (hasevent_any _ _).mono ?_; rintro e wh ⟨rfl, rfl⟩; rw [h2]) | (go_at_call 31; refine (hasseller_any _ _).mono ?_; rintro e wh ⟨rfl, rfl⟩; rw [h3]) | (go_at_call 32; refine (hasstance_any _ _).mono ?_; rintro e wh ⟨rfl, rfl⟩; rw [h4]) | (go_at_call 34; refine (hascount_any _ _).mono ?_; rintro e wh ⟨rfl, rfl⟩; rw [h5]))
  refine (wnum_any B B (wordN m.co) (enc (wordN m.k) ++ enc (wordN m.se)) w4 HW4.out (wordN_lt _) (by (try simp only [List.length_append]); have := HLE.out; omega)).mono ?_
  rintro e w5 ⟨rfl, hw, hr⟩
  have HB5 := Lib.hid (HB4.out.trans (hr.1.mono (Nat.le_of_lt HBL.out)))
  have HX5 := Lib.hid (blk_below HX4.out hr.1 HBL.out)
  have HW5 := Lib.hid hw
  clear hw hr c2 c0 ws HX4 HB4 HW4
  obtain ⟨_, rl, rx, rs, c0, c1, c2, c3, c4⟩ := ms_all HX5.out
  clear rl rx rs c1 c2 c3 c4
  go_wp2_with (first | (go_at_call 27; refine (haslabel_any _ _).mono ?_; rintro e wh ⟨rfl, rfl⟩; rw [h1]) | (go_at_call 29; refine (hasevent_any _ _).mono ?_; rintro e wh ⟨rfl, rfl⟩; rw [h2]) | (go_at_call 31; refine (hasseller_any _ _).mono ?_; rintro e wh ⟨rfl, rfl⟩; rw [h3]) | (go_at_call 32; refine (hasstance_any _ _).mono ?_; rintro e wh ⟨rfl, rfl⟩; rw [h4]) | (go_at_call 34; refine (hascount_any _ _).mono ?_; rintro e wh ⟨rfl, rfl⟩; rw [h5]))
  have hlen : (encM m).length + 16 ≤ 140737488355328 := by rw [HEN.out]; simp only [List.length_append]; have := HLE.out; omega
  refine (bytes_any B B (encM m) _ (by rw [HEN.out]; first | exact HW5.out | simpa only [List.append_assoc] using HW5.out) (by omega)).mono ?_
  rintro e w9 ⟨v9, rfl, hown, hb⟩
  have HB9 := Lib.hid (HB5.out.trans (hb.mono HB5.out.size))
  have HO9 := Lib.hid hown
  clear hown hb hlen
  go_wp2_with fail
  refine bodyPost_ret (v := .tuple #[v9, .int .i64 0]) (by simp [results, Try.results18, go_sem]) rfl ⟨v9, rfl, own_le HO9.out HB5.out.size, HB9.out⟩
set_option maxRecDepth 20000 in
set_option maxHeartbeats 8000000 in
theorem write_st (m : Ms) (W : World) (hr : rightM m = true) (ho : Ms.Ok m) (h1 : hl m.k = false) (h2 : hev m.k = false) (h3 : hse m.k = false) (h4 : hst m.k = true) (h5 : hco m.k = false) : Calls Try.prog 18 #[.agg m.cells.toArray] W fun e W' => ∃ v, e = .returned (.tuple #[v, .int .i64 0]) ∧ W'.ownsRow W.heap.size 5 1 v (encM m).length (u8s (encM m)) ∧ Below W.heap.size W W' := by
  have bA := Blk.new W 50 m.cells.toArray
  have hB0 := Lib.hid ((Below.refl W.heap.size W).alloc (Nat.le_refl _) (.cells m.cells.toArray 50))
  have rx := bA.range
  have HX := Lib.hid bA
  have HO := Lib.hid ho
  have HBO := Lib.hid (body_of hr)
  have HEN := Lib.hid (show encM m = enc (wordN m.k) ++ (enc (wordN m.ca) ++ (enc (wordN m.ro) ++ encSt m.s)) by unfold encM; rw [h1, h2, h3, h4, h5]; simp)
  have HLE := Lib.hid (And.intro (enc_len _ (wordN_lt m.k)) (And.intro (enc_len _ (wordN_lt m.se)) (And.intro (enc_len _ (wordN_lt m.co)) (And.intro (enc_len _ (wordN_lt m.ca)) (enc_len _ (wordN_lt m.ro))))))
  have wk := wrap_word m.k
  clear bA ho
  go_enter Try.func18, Try.ntmps18
  go_upto_region 3 with (first | (refine wpList_load_midg (by rfl) 50 _ rfl _ _ rfl (Ms.cells ?_) _ ?_ Try.underlying50 rfl (msinfo _) ?_; rotate_left; (focus assumption)) | (go_at_call 24; refine (right_any _ _).mono ?_; rintro e W1 ⟨rfl, hb⟩; rw [hr]; have HB1 := Lib.hid (hB0.out.trans (hb.mono hB0.out.size)); have HX1 := Lib.hid (HX.out.next hb); clear hb rx))
  have hlt1 := HX1.out.lt
  obtain ⟨_, _, _, _, c0, _, _, _, _⟩ := ms_all HX1.out
  clear hr hB0 HX
  refine wp_region_tree (S := (fun w' => w'.cell? ⟨W.heap.size, 0, none⟩ = some (.int .i64 m.k))) (.take 1 (.take 2 (.take 3 (.one 0 (.one 4 (.take 5 .nil)))))) 9999 (by kernel_rfl) (by kernel_rfl) (by kernel_rfl) (by kernel_rfl) (by kernel_rfl) (fun _ _ d _ _ h => by cases d <;> exact h) c0 (fun hHeld => ?_); simp only [Tree.map, List.getElem?_toArray, List.getElem?_cons_zero, List.getElem?_cons_succ]
  (repeat (first | (refine wpTree.take (v := undef) (Or.inr ⟨by rfl, rfl⟩) ?_; simp only [Act.put, List.setIfInBounds_toArray, List.set_cons_zero, List.set_cons_succ]) | (refine wpTree.take (v := ?_) (Or.inl ⟨by rfl, ?_⟩) ?_; rotate_left; (focus (intro _ hS; (try dsimp only at hS); go_split_ands; (try subst hS); go_simp; (try (with_reducible rfl)); done)); simp only [Act.put, List.setIfInBounds_toArray, List.set_cons_zero, List.set_cons_succ])))
  refine wpTree.one (fun K hK => ?_)
  go_simp
  go_at_call 25
  refine (new_any W1.drew).mono ?_
  rintro e w2 ⟨rfl, hw, hb⟩
  obtain ⟨B, hBe⟩ : ∃ B, B = W1.drew.heap.size := ⟨_, rfl⟩
  have hBl : W.heap.size < B := by rw [hBe]; exact hlt1
  have hb2 : Below W1.heap.size W1 w2 := (Below.refl _ _).drew.trans hb
  have HB2 := Lib.hid (HB1.out.trans (hb2.mono HB1.out.size))
  have HX2 := Lib.hid (HX1.out.next hb2)
  rw [← hBe] at hw ⊢
  have HW2 := Lib.hid hw
  have HBL := Lib.hid hBl
  have c02 := (ms_all HX2.out).2.2.2.2.1
  refine hK.out _ _ c02 (fun _ => ?_)
  clear hK K hHeld hw hb hb2 hBe hlt1 c0 hBl HX1 HB1
  (try simp only [Act.put, List.setIfInBounds_toArray, List.set_cons_zero, List.set_cons_succ])
  refine wpTree.one (fun K hK => ?_)
  go_simp
  go_at_call 26
  refine (wnum_any B B (wordN m.k) [] w2 HW2.out (wordN_lt _) (by decide)).mono ?_
  rintro e w3 ⟨rfl, hw, hr⟩
  have HB3 := Lib.hid (HB2.out.trans (hr.1.mono (Nat.le_of_lt HBL.out)))
  have HX3 := Lib.hid (blk_below HX2.out hr.1 HBL.out)
  have HW3 := Lib.hid (show Wtr w3 B B (enc (wordN m.k)) by simpa using hw)
  obtain ⟨_, rl, rx, rs, c0, c1, c2, c3, c4⟩ := ms_all HX3.out
  refine hK.out _ _ c0 (fun _ => ?_)
  clear hK K hw hr c02 HB2 HX2 HW2 wk
  (try simp only [Act.put, List.setIfInBounds_toArray, List.set_cons_zero, List.set_cons_succ])
  (repeat (first | (refine wpTree.take (v := undef) (Or.inr ⟨by rfl, rfl⟩) ?_; simp only [Act.put, List.setIfInBounds_toArray, List.set_cons_zero, List.set_cons_succ]) | (refine wpTree.take (v := ?_) (Or.inl ⟨by rfl, ?_⟩) ?_; rotate_left; (focus (intro _ hS; (try dsimp only at hS); go_split_ands; (try subst hS); go_simp; (try (with_reducible rfl)); done)); simp only [Act.put, List.setIfInBounds_toArray, List.set_cons_zero, List.set_cons_succ])))
  refine wpTree.done ?_
  clear rl rx c1 c2
  have wc := wrap_word m.ca
  have wr := wrap_word m.ro
  go_upto_region 11 with (first | (go_at_call 27; refine (haslabel_any _ _).mono ?_; rintro e wh ⟨rfl, rfl⟩; rw [h1]) | (go_at_call 29; refine (hasevent_any _ _).mono ?_; rintro e wh ⟨rfl, rfl⟩; rw [h2]) | (go_at_call 31; refine (hasseller_any _ _).mono ?_; rintro e wh ⟨rfl, rfl⟩; rw [h3]) | (go_at_call 32; refine (hasstance_any _ _).mono ?_; rintro e wh ⟨rfl, rfl⟩; rw [h4]) | (go_at_call 34; refine (hascount_any _ _).mono ?_; rintro e wh ⟨rfl, rfl⟩; rw [h5]))
  clear c0
  refine wp_region_tree (S := (fun w' => w'.cell? ⟨W.heap.size, 3, none⟩ = some (.int .i64 m.ca) ∧ w'.cell? ⟨W.heap.size, 4, none⟩ = some (.int .i64 m.ro) ∧ w'.rangeAt W.heap.size 43 m.s.cells)) (.take 0 (.take 1 (.take 2 (.take 3 (.take 5 (.take 6 (.take 7 (.take 9 (.take 10 (.one 4 (.one 8 (.one 11 .nil)))))))))))) 9999 (by kernel_rfl) (by kernel_rfl) (by kernel_rfl) (by kernel_rfl) (by kernel_rfl) (fun _ _ d _ _ h => by cases d <;> exact h) ⟨c3, c4, rs⟩ (fun hHeld => ?_); simp only [Tree.map, List.getElem?_toArray, List.getElem?_cons_zero, List.getElem?_cons_succ]
  (repeat (first | (refine wpTree.take (v := undef) (Or.inr ⟨by rfl, rfl⟩) ?_; simp only [Act.put, List.setIfInBounds_toArray, List.set_cons_zero, List.set_cons_succ]) | (refine wpTree.take (v := .agg (St.cells ?_).toArray) (yieldsIf_load_mid rfl 33 _ rfl _ _ rfl (St.cells _) _ ?_ Try.underlying33 rfl (stinfo _)) ?_; rotate_left; (focus (intro _ hS; exact hS.2.2)); simp only [Act.put, List.setIfInBounds_toArray, List.set_cons_zero, List.set_cons_succ]) | (refine wpTree.take (v := ?_) (Or.inl ⟨by rfl, ?_⟩) ?_; rotate_left; (focus (intro _ hS; (try dsimp only at hS); go_split_ands; (try subst hS); go_simp; (try (with_reducible rfl)); done)); simp only [Act.put, List.setIfInBounds_toArray, List.set_cons_zero, List.set_cons_succ])))
  clear hHeld c3 c4 rs wc wr
  have HB3 := Lib.hid HB3.out.drew
  refine wpTree.one (fun K hK => ?_)
  go_simp
  go_at_call 26
  refine (wnum_any B B (wordN m.ca) (enc (wordN m.k)) w3.drew HW3.out (wordN_lt _) (by (try simp only [List.length_append]); have := HLE.out; omega)).mono ?_
  rintro e w4 ⟨rfl, hw, hr⟩
  have HB4 := Lib.hid ((show Below W.heap.size W w3.drew from HB3.out).trans (hr.1.mono (Nat.le_of_lt HBL.out)))
  have HX4 := Lib.hid (blk_below (show Blk w3.drew W.heap.size 50 m.cells.toArray from HX3.out) hr.1 HBL.out)
  have HW4 := Lib.hid hw
  clear hw hr HX3 HB3 HW3
  obtain ⟨_, rl, rx, rs, c0, c1, c2, c3, c4⟩ := ms_all HX4.out
  refine hK.out _ _ ⟨c3, c4, rs⟩ (fun _ => ?_)
  clear hK K rl rx rs c0 c1 c2 c3 c4
  (try simp only [Act.put, List.setIfInBounds_toArray, List.set_cons_zero, List.set_cons_succ])
  refine wpTree.one (fun K hK => ?_)
  go_simp
  go_at_call 26
  refine (wnum_any B B (wordN m.ro) (enc (wordN m.k) ++ enc (wordN m.ca)) w4 HW4.out (wordN_lt _) (by (try simp only [List.length_append]); have := HLE.out; omega)).mono ?_
  rintro e w5 ⟨rfl, hw, hr⟩
  have HB5 := Lib.hid ((show Below W.heap.size W w4 from HB4.out).trans (hr.1.mono (Nat.le_of_lt HBL.out)))
  have HX5 := Lib.hid (blk_below (show Blk w4 W.heap.size 50 m.cells.toArray from HX4.out) hr.1 HBL.out)
  have HW5 := Lib.hid hw
  clear hw hr HX4 HB4 HW4
  obtain ⟨_, rl, rx, rs, c0, c1, c2, c3, c4⟩ := ms_all HX5.out
  refine hK.out _ _ ⟨c3, c4, rs⟩ (fun _ => ?_)
  clear hK K rl rx rs c0 c1 c2 c3 c4
  (try simp only [Act.put, List.setIfInBounds_toArray, List.set_cons_zero, List.set_cons_succ])
  have HEL := Lib.hid (show (encSt m.s).length ≤ 200 by unfold encSt; split <;> (have := enc_len 1 (by decide); have := enc_len 0 (by decide); have := enc_len m.s.t HO.out.s.t; have := encV_len m.s.f HO.out.s.f; (try simp only [List.length_append]); omega))
  refine wpTree.one (fun K hK => ?_)
  go_simp
  go_at_call 33
  refine (putstance_any B B m.s (enc (wordN m.k) ++ enc (wordN m.ca) ++ enc (wordN m.ro)) w5 HW5.out HO.out.s (by (try simp only [List.length_append]); have := HLE.out; omega)).mono ?_
  rintro e w6 ⟨rfl, hw, hr⟩
  have HB6 := Lib.hid ((show Below W.heap.size W w5 from HB5.out).trans (hr.1.mono (Nat.le_of_lt HBL.out)))
  have HX6 := Lib.hid (blk_below (show Blk w5 W.heap.size 50 m.cells.toArray from HX5.out) hr.1 HBL.out)
  have HW6 := Lib.hid hw
  clear hw hr HX5 HB5 HW5
  obtain ⟨_, rl, rx, rs, c0, c1, c2, c3, c4⟩ := ms_all HX6.out
  refine hK.out _ _ ⟨c3, c4, rs⟩ (fun _ => ?_)
  clear hK K rl rx rs c0 c1 c2 c3 c4
  (try simp only [Act.put, List.setIfInBounds_toArray, List.set_cons_zero, List.set_cons_succ])
  refine wpTree.done ?_
  obtain ⟨_, rl, rx, rs, c0, c1, c2, c3, c4⟩ := ms_all HX6.out
  clear rl rx rs c1 c2 c3 c4
  go_wp2_with (first | (go_at_call 27; refine (haslabel_any _ _).mono ?_; rintro e wh ⟨rfl, rfl⟩; rw [h1]) | (go_at_call 29; refine (hasevent_any _ _).mono ?_; rintro e wh ⟨rfl, rfl⟩; rw [h2]) | (go_at_call 31; refine (hasseller_any _ _).mono ?_; rintro e wh ⟨rfl, rfl⟩; rw [h3]) | (go_at_call 32; refine (hasstance_any _ _).mono ?_; rintro e wh ⟨rfl, rfl⟩; rw [h4]) | (go_at_call 34; refine (hascount_any _ _).mono ?_; rintro e wh ⟨rfl, rfl⟩; rw [h5]))
  have hlen : (encM m).length + 16 ≤ 140737488355328 := by rw [HEN.out]; simp only [List.length_append]; have := HLE.out; have := HEL.out; omega
  refine (bytes_any B B (encM m) _ (by rw [HEN.out]; first | exact HW6.out | simpa only [List.append_assoc] using HW6.out) (by omega)).mono ?_
  rintro e w9 ⟨v9, rfl, hown, hb⟩
  have HB9 := Lib.hid (HB6.out.trans (hb.mono HB6.out.size))
  have HO9 := Lib.hid hown
  clear hown hb hlen
  go_wp2_with fail
  refine bodyPost_ret (v := .tuple #[v9, .int .i64 0]) (by simp [results, Try.results18, go_sem]) rfl ⟨v9, rfl, own_le HO9.out HB6.out.size, HB9.out⟩
theorem ms_write_yes (m : Ms) (W : World) (hr : rightM m = true) (ho : Ms.Ok m) : Calls Try.prog 18 #[.agg m.cells.toArray] W fun e W' => ∃ v, e = .returned (.tuple #[v, .int .i64 0]) ∧ W'.ownsRow W.heap.size 5 1 v (encM m).length (u8s (encM m)) ∧ Below W.heap.size W W' := by
  rcases kd_any m.k with ⟨_, h1, h2, h3, h4, h5⟩ | ⟨_, h1, h2, h3, h4, h5⟩ | ⟨_, h1, h2, h3, h4, h5⟩ | ⟨_, h1, h2, h3, h4, h5⟩ | ⟨_, h1, h2, h3, h4, h5⟩ | ⟨_, h1, h2, h3, h4, h5⟩
  · exact write_lab m W hr ho h1 h2 h3 h4 h5
  · exact write_ev m W hr ho h1 h2 h3 h4 h5
  · exact write_sel m W hr ho h1 h2 h3 h4 h5
  · exact write_en m W hr ho h1 h2 h3 h4 h5
  · exact write_st m W hr ho h1 h2 h3 h4 h5
  · have := body_of hr
    unfold bodyM at this
    rw [h1, h2, h3, h4] at this
    exact absurd this (by simp)
end Mg
end Go.Proofs.Ytkigaclcmodjaaa

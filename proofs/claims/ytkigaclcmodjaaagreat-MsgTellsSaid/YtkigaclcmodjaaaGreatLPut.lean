/-
label.Put.
label.Write.
-/
import Derived.Test.YtkigaclcmodjaaaGreatLab4
namespace Go.Proofs.YtkigaclcmodjaaaGreat
open Go.RowKit

/-- A box that no write touches. -/
def Boxd (W : World) (bx g : Nat) (cs : Array Value) : Prop := Blk W bx 27 cs ∧ bx ≠ g ∧ some bx ≠ rowOf W g
theorem Boxd.wrote {W W' : World} {B bx g : Nat} {cs : Array Value} (h : Boxd W bx g cs) (k : Wrote B g W W') : Boxd W' bx g cs :=
  ⟨(k.2.1 bx h.1.lt h.2.1 h.2.2).trans h.1, h.2.1, fun e => (k.2.2 bx e.symm).elim (fun e' => h.2.2 e'.symm) (fun e' => by have := h.1.lt; omega)⟩
theorem Boxd.drew {W : World} {bx g : Nat} {cs : Array Value} (h : Boxd W bx g cs) : Boxd W.drew bx g cs := h
theorem Wrote.drew {B g : Nat} {W W' : World} (h : Wrote B g W W') : Wrote B g W W'.drew := ⟨h.1.drew, h.2.1, h.2.2⟩
def encL (l : Lab) : List Nat := enc l.t ++ enc l.nd.toNat ++ enc l.n ++ enc l.ca.toNat ++ enc l.se.toNat ++ encV l.f

set_option maxRecDepth 20000 in
set_option maxHeartbeats 4000000 in
theorem lput_any (B g t nd n ca se : Nat) (f : Nat → Nat) (bs : List Nat) (W : World) (h : Wtr W B g bs) (ht : t < 18446744073709551616) (hd : nd < 4294967296) (hn : n < 4294967296) (hc : ca < 4294967296) (hs : se < 4294967296)
    (hf : ∀ i, f i < 4294967296) (hlen : bs.length + 250 ≤ 140737488355328) :
    Calls Tryz.prog 27 #[.pointer (some ⟨g, 0, none⟩), .agg (Lab.mk t (nd : Nat) n (ca : Nat) (se : Nat) f).cells.toArray] W fun e W' => e = .returned (.tuple #[]) ∧ Wtr W' B g (bs ++ encL (Lab.mk t (nd : Nat) n (ca : Nat) (se : Nat) f)) ∧ Wrote B g W W' := by
  obtain ⟨l, hl⟩ : ∃ l, l = Lab.mk t (nd : Nat) n (ca : Nat) (se : Nat) f := ⟨_, rfl⟩
  have hE := Lib.hid (show encL l = enc t ++ enc nd ++ enc n ++ enc ca ++ enc se ++ encV f by subst hl; rfl)
  have hb0 := (Below.refl W.heap.size W).alloc (Nat.le_refl _) (.cells l.cells.toArray 27)
  have hBx := Lib.hid (show Boxd (W.alloc (.cells l.cells.toArray 27)) W.heap.size g l.cells.toArray from ⟨Blk.new _ _ _, by have := h.lt; omega, fun e => by have := h.lt; have := rowOf_lt h (k := W.heap.size) (by rw [e]; unfold rowOf; rw [hb0.cell (p := ⟨g, 0, none⟩) h.lt]); omega⟩)
  have hW0 := Lib.hid (h.next hb0)
  have hR0 := Lib.hid (Wrote.ofBelow hb0 (Nat.le_trans h.1 (Nat.le_of_lt h.lt)) h.lt)
  have hQ := Lib.hid (show l.cells.toArray[0]? = some (.int .u64 (t : Nat)) ∧ l.cells.toArray[1]? = some (.int .i64 (nd : Nat)) ∧ l.cells.toArray[2]? = some (.int .u32 (n : Nat)) ∧ l.cells.toArray[3]? = some (.int .i64 (ca : Nat)) ∧ l.cells.toArray[4]? = some (.int .i64 (se : Nat)) from by
    subst hl
    exact ⟨(List.getElem?_toArray ..).trans lab_0, (List.getElem?_toArray ..).trans lab_1, (List.getElem?_toArray ..).trans lab_2, (List.getElem?_toArray ..).trans lab_3, (List.getElem?_toArray ..).trans lab_4⟩)
  have hV := Lib.hid (show ∀ W', Boxd W' W.heap.size g l.cells.toArray → W'.rangeAt W.heap.size 5 (vl f) from fun W' h => by
    have := (lab_all h.1).2.1
    subst hl
    exact this)
  have hC := Lib.hid (show ∀ W', Boxd W' W.heap.size g l.cells.toArray → W'.cell? ⟨W.heap.size, 0, none⟩ = some (.int .u64 (t : Nat)) ∧ W'.cell? ⟨W.heap.size, 1, none⟩ = some (.int .i64 (nd : Nat)) ∧ W'.cell? ⟨W.heap.size, 2, none⟩ = some (.int .u32 (n : Nat)) from fun W' h =>
    ⟨(h.1.cell 0).trans hQ.out.1, (h.1.cell 1).trans hQ.out.2.1, (h.1.cell 2).trans hQ.out.2.2.1⟩)
  have hD := Lib.hid (show ∀ W', Boxd W' W.heap.size g l.cells.toArray → W'.cell? ⟨W.heap.size, 3, none⟩ = some (.int .i64 (ca : Nat)) ∧ W'.cell? ⟨W.heap.size, 4, none⟩ = some (.int .i64 (se : Nat)) ∧ W'.rangeAt W.heap.size 5 (vl f) from fun W' h =>
    ⟨(h.1.cell 3).trans hQ.out.2.2.2.1, (h.1.cell 4).trans hQ.out.2.2.2.2, hV.out W' h⟩)
  have HLE := Lib.hid (show (enc t).length ≤ 10 ∧ (enc nd).length ≤ 10 ∧ (enc n).length ≤ 10 ∧ (enc ca).length ≤ 10 ∧ (enc se).length ≤ 10 from ⟨enc_len t ht, enc_len nd (by omega), enc_len n (by omega), enc_len ca (by omega), enc_len se (by omega)⟩)
  have HN := Lib.hid ht
  have HLEN := Lib.hid hlen
  have w1 : IntKind.u64.wrap ((nd : Nat) : Int) = (nd : Nat) := by rw [IntKind.wrap_u64]; omega
  have w2 : IntKind.u64.wrap ((n : Nat) : Int) = (n : Nat) := by rw [IntKind.wrap_u64]; omega
  rw [← hl]
  have w3 : IntKind.u64.wrap ((ca : Nat) : Int) = (ca : Nat) := by rw [IntKind.wrap_u64]; omega
  have w4 : IntKind.u64.wrap ((se : Nat) : Int) = (se : Nat) := by rw [IntKind.wrap_u64]; omega
  have HD := Lib.hid hd
  have HN2 := Lib.hid hn
  have HC := Lib.hid hc
  have HS := Lib.hid hs
  have HF := Lib.hid hf
  clear hb0 h ht hlen hl hd hn hc hs hf
  go_enter Tryz.func27, Tryz.ntmps27
  go_wp2_with fail
  refine wp_region_tree (S := (fun W' => W'.cell? ⟨W.heap.size, 0, none⟩ = some (.int .u64 (t : Nat)) ∧ W'.cell? ⟨W.heap.size, 1, none⟩ = some (.int .i64 (nd : Nat)) ∧ W'.cell? ⟨W.heap.size, 2, none⟩ = some (.int .u32 (n : Nat)))) (.take 0 (.take 1 (.take 2 (.take 4 (.take 5 (.take 6 (.take 8 (.take 9 (.take 10 (.one 3 (.one 7 (.one 11 .nil)))))))))))) 9999 (by kernel_rfl) (by kernel_rfl) (by kernel_rfl) (by kernel_rfl) (by kernel_rfl) (fun _ _ d _ _ h => by cases d <;> exact h) ?_ (fun hHeld => ?_); (focus (exact hC.out _ hBx.out.drew)); simp only [Tree.map, List.getElem?_toArray, List.getElem?_cons_zero, List.getElem?_cons_succ]
  (repeat (first | (refine wpTree.take (v := undef) (Or.inr ⟨by rfl, rfl⟩) ?_; simp only [Act.put, List.setIfInBounds_toArray, List.set_cons_zero, List.set_cons_succ]) | (refine wpTree.take (v := ?_) (Or.inl ⟨by rfl, ?_⟩) ?_; rotate_left; (focus (intro _ hS; (try dsimp only at hS); go_split_ands; (try subst hS); go_simp; (try (with_reducible rfl)); done)); simp only [Act.put, List.setIfInBounds_toArray, List.set_cons_zero, List.set_cons_succ])))
  refine wpTree.one (fun K hK => ?_)
  go_simp
  go_at_call 25
  refine (wnum_any B g t bs _ (show Wtr (W.alloc (.cells l.cells.toArray 27)).drew B g bs from hW0.out) HN.out (by (try simp only [List.length_append]); have := HLEN.out; obtain ⟨_, _, _, _, _⟩ := HLE.out; omega)).mono ?_
  rintro e W1 ⟨rfl, hw, hr⟩
  have HW1 := Lib.hid hw
  have HR1 := Lib.hid (Wrote.trans (hR0.out.drew) hr)
  have HX1 := Lib.hid (Boxd.wrote (hBx.out.drew) hr)
  refine hK.out _ _ (hC.out _ (Boxd.wrote (hBx.out.drew) hr)) (fun _ => ?_)
  clear hK K hw hr
  (repeat (first | (refine wpTree.take (v := undef) (Or.inr ⟨by rfl, rfl⟩) ?_; simp only [Act.put, List.setIfInBounds_toArray, List.set_cons_zero, List.set_cons_succ]) | (refine wpTree.take (v := ?_) (Or.inl ⟨by rfl, ?_⟩) ?_; rotate_left; (focus (intro _ hS; (try dsimp only at hS); go_split_ands; (try subst hS); go_simp; (try (with_reducible rfl)); done)); simp only [Act.put, List.setIfInBounds_toArray, List.set_cons_zero, List.set_cons_succ])))
  refine wpTree.one (fun K hK => ?_)
  go_simp
  go_at_call 25
  refine (wnum_any B g nd (bs ++ enc t) _ HW1.out (Nat.lt_trans HD.out (by decide)) (by (try simp only [List.length_append]); have := HLEN.out; obtain ⟨_, _, _, _, _⟩ := HLE.out; omega)).mono ?_
  rintro e W2 ⟨rfl, hw, hr⟩
  have HW2 := Lib.hid hw
  have HR2 := Lib.hid (Wrote.trans (HR1.out) hr)
  have HX2 := Lib.hid (Boxd.wrote (HX1.out) hr)
  refine hK.out _ _ (hC.out _ (Boxd.wrote (HX1.out) hr)) (fun _ => ?_)
  clear hK K hw hr
  (repeat (first | (refine wpTree.take (v := undef) (Or.inr ⟨by rfl, rfl⟩) ?_; simp only [Act.put, List.setIfInBounds_toArray, List.set_cons_zero, List.set_cons_succ]) | (refine wpTree.take (v := ?_) (Or.inl ⟨by rfl, ?_⟩) ?_; rotate_left; (focus (intro _ hS; (try dsimp only at hS); go_split_ands; (try subst hS); go_simp; (try (with_reducible rfl)); done)); simp only [Act.put, List.setIfInBounds_toArray, List.set_cons_zero, List.set_cons_succ])))
  refine wpTree.one (fun K hK => ?_)
  go_simp
  go_at_call 25
  refine (wnum_any B g n (bs ++ enc t ++ enc nd) _ HW2.out (Nat.lt_trans HN2.out (by decide)) (by (try simp only [List.length_append]); have := HLEN.out; obtain ⟨_, _, _, _, _⟩ := HLE.out; omega)).mono ?_
  rintro e W3 ⟨rfl, hw, hr⟩
  have HW3 := Lib.hid hw
  have HR3 := Lib.hid (Wrote.trans (HR2.out) hr)
  have HX3 := Lib.hid (Boxd.wrote (HX2.out) hr)
  refine hK.out _ _ (hC.out _ (Boxd.wrote (HX2.out) hr)) (fun _ => ?_)
  clear hK K hw hr
  (repeat (first | (refine wpTree.take (v := undef) (Or.inr ⟨by rfl, rfl⟩) ?_; simp only [Act.put, List.setIfInBounds_toArray, List.set_cons_zero, List.set_cons_succ]) | (refine wpTree.take (v := ?_) (Or.inl ⟨by rfl, ?_⟩) ?_; rotate_left; (focus (intro _ hS; (try dsimp only at hS); go_split_ands; (try subst hS); go_simp; (try (with_reducible rfl)); done)); simp only [Act.put, List.setIfInBounds_toArray, List.set_cons_zero, List.set_cons_succ])))
  refine wpTree.done ?_
  clear HW1 HR1 HX1 HW2 HR2 HX2
  go_wp2_with fail
  refine wp_region_tree (S := (fun W' => W'.cell? ⟨W.heap.size, 3, none⟩ = some (.int .i64 (ca : Nat)) ∧ W'.cell? ⟨W.heap.size, 4, none⟩ = some (.int .i64 (se : Nat)) ∧ W'.rangeAt W.heap.size 5 (vl f))) (.take 0 (.take 1 (.take 2 (.take 3 (.take 5 (.take 6 (.take 7 (.take 9 (.take 10 (.one 4 (.one 8 (.one 11 .nil)))))))))))) 9999 (by kernel_rfl) (by kernel_rfl) (by kernel_rfl) (by kernel_rfl) (by kernel_rfl) (fun _ _ d _ _ h => by cases d <;> exact h) ?_ (fun hHeld => ?_); (focus (exact hD.out _ HX3.out.drew)); simp only [Tree.map, List.getElem?_toArray, List.getElem?_cons_zero, List.getElem?_cons_succ]
  (repeat (first | (refine wpTree.take (v := undef) (Or.inr ⟨by rfl, rfl⟩) ?_; simp only [Act.put, List.setIfInBounds_toArray, List.set_cons_zero, List.set_cons_succ]) | (refine wpTree.take (v := .agg (vl ?_).toArray) (yieldsIf_load_mid rfl 25 _ rfl _ _ rfl (vl _) _ ?_ Tryz.underlying25 rfl (vinfoL _)) ?_; rotate_left; (focus (intro _ hS; (try dsimp only at hS); go_split_ands; (first | assumption | exact Blk.range (by assumption)))); simp only [Act.put, List.setIfInBounds_toArray, List.set_cons_zero, List.set_cons_succ]) | (refine wpTree.take (v := ?_) (Or.inl ⟨by rfl, ?_⟩) ?_; rotate_left; (focus (intro _ hS; (try dsimp only at hS); go_split_ands; (try subst hS); go_simp; (try (with_reducible rfl)); done)); simp only [Act.put, List.setIfInBounds_toArray, List.set_cons_zero, List.set_cons_succ])))
  refine wpTree.one (fun K hK => ?_)
  go_simp
  go_at_call 25
  refine (wnum_any B g ca (bs ++ enc t ++ enc nd ++ enc n) _ (show Wtr W3.drew B g _ from HW3.out) (Nat.lt_trans HC.out (by decide)) (by (try simp only [List.length_append]); have := HLEN.out; obtain ⟨_, _, _, _, _⟩ := HLE.out; omega)).mono ?_
  rintro e W4 ⟨rfl, hw, hr⟩
  have HW4 := Lib.hid hw
  have HR4 := Lib.hid (Wrote.trans (HR3.out.drew) hr)
  have HX4 := Lib.hid (Boxd.wrote (HX3.out.drew) hr)
  refine hK.out _ _ (hD.out _ (Boxd.wrote (HX3.out.drew) hr)) (fun _ => ?_)
  clear hK K hw hr
  (repeat (first | (refine wpTree.take (v := undef) (Or.inr ⟨by rfl, rfl⟩) ?_; simp only [Act.put, List.setIfInBounds_toArray, List.set_cons_zero, List.set_cons_succ]) | (refine wpTree.take (v := ?_) (Or.inl ⟨by rfl, ?_⟩) ?_; rotate_left; (focus (intro _ hS; (try dsimp only at hS); go_split_ands; (try subst hS); go_simp; (try (with_reducible rfl)); done)); simp only [Act.put, List.setIfInBounds_toArray, List.set_cons_zero, List.set_cons_succ])))
  refine wpTree.one (fun K hK => ?_)
  go_simp
  go_at_call 25
  refine (wnum_any B g se (bs ++ enc t ++ enc nd ++ enc n ++ enc ca) _ HW4.out (Nat.lt_trans HS.out (by decide)) (by (try simp only [List.length_append]); have := HLEN.out; obtain ⟨_, _, _, _, _⟩ := HLE.out; omega)).mono ?_
  rintro e W5 ⟨rfl, hw, hr⟩
  have HW5 := Lib.hid hw
  have HR5 := Lib.hid (Wrote.trans (HR4.out) hr)
  have HX5 := Lib.hid (Boxd.wrote (HX4.out) hr)
  refine hK.out _ _ (hD.out _ (Boxd.wrote (HX4.out) hr)) (fun _ => ?_)
  clear hK K hw hr
  (repeat (first | (refine wpTree.take (v := undef) (Or.inr ⟨by rfl, rfl⟩) ?_; simp only [Act.put, List.setIfInBounds_toArray, List.set_cons_zero, List.set_cons_succ]) | (refine wpTree.take (v := ?_) (Or.inl ⟨by rfl, ?_⟩) ?_; rotate_left; (focus (intro _ hS; (try dsimp only at hS); go_split_ands; (try subst hS); go_simp; (try (with_reducible rfl)); done)); simp only [Act.put, List.setIfInBounds_toArray, List.set_cons_zero, List.set_cons_succ])))
  refine wpTree.one (fun K hK => ?_)
  go_simp
  go_at_call 60
  refine (wvector_any B g f (bs ++ enc t ++ enc nd ++ enc n ++ enc ca ++ enc se) _ HW5.out HF.out (by (try simp only [List.length_append]); have := HLEN.out; obtain ⟨_, _, _, _, _⟩ := HLE.out; omega)).mono ?_
  rintro e W6 ⟨rfl, hw, hr⟩
  have HW6 := Lib.hid hw
  have HR6 := Lib.hid (HR5.out.trans hr)
  refine hK.out _ _ (hD.out _ (HX5.out.wrote hr)) (fun _ => ?_)
  clear hK K hw hr
  refine wpTree.done ?_
  go_wp2_with fail
  exact ⟨rfl, .tuple #[], by simp [results, Tryz.results27, go_sem], rfl, by rw [hE.out]; simpa only [List.append_assoc] using HW6.out, HR6.out⟩
end Go.Proofs.YtkigaclcmodjaaaGreat
namespace Go.Proofs.YtkigaclcmodjaaaGreat
open Go.RowKit

/-- What a label that may be is. -/
theorem lab_nats {l : Lab} (h : rightL l = true) : ∃ nd ca se : Nat, l = Lab.mk l.t (nd : Nat) l.n (ca : Nat) (se : Nat) l.f ∧ 1 ≤ nd ∧ nd ≤ 12 ∧ 1 ≤ ca ∧ ca ≤ 12 ∧ se ≤ 12 ∧ 1 ≤ l.t ∧ l.t ≤ 1099511627776 ∧ l.n ≤ 1048576 := by
  unfold rightL timeB placeB nextB nodeB at h
  simp only [Bool.and_eq_true, decide_eq_true_eq] at h
  obtain ⟨⟨⟨⟨h1, h2⟩, ⟨⟨h3, h4⟩, h5⟩, h6⟩, ⟨⟨h7, h8⟩, h9⟩, h10⟩, h11⟩ := h
  obtain ⟨t, nd, n, ca, se, f⟩ := l
  obtain ⟨nd, rfl⟩ := Int.eq_ofNat_of_zero_le (show 0 ≤ nd by dsimp only at h7; omega)
  obtain ⟨ca, rfl⟩ := Int.eq_ofNat_of_zero_le (show 0 ≤ ca by dsimp only at h3; omega)
  obtain ⟨se, rfl⟩ := Int.eq_ofNat_of_zero_le (show 0 ≤ se by dsimp only at h5; omega)
  dsimp only at *
  exact ⟨nd, ca, se, rfl, by omega, by omega, by omega, by omega, by omega, h1, h2, by omega⟩
theorem lput_lab (B g : Nat) (l : Lab) (bs : List Nat) (W : World) (h : Wtr W B g bs) (hr : rightL l = true) (hf : ∀ i, l.f i < 4294967296) (hlen : bs.length + 250 ≤ 140737488355328) :
    Calls Tryz.prog 27 #[.pointer (some ⟨g, 0, none⟩), .agg l.cells.toArray] W fun e W' => e = .returned (.tuple #[]) ∧ Wtr W' B g (bs ++ encL l) ∧ Wrote B g W W' := by
  obtain ⟨nd, ca, se, hl, h1, h2, h3, h4, h5, h6, h7, h8⟩ := lab_nats hr
  have := lput_any B g l.t nd l.n ca se l.f bs W h (by omega) (by omega) (by omega) (by omega) (by omega) hf hlen
  rw [← hl] at this
  exact this
theorem encL_len {l : Lab} (hr : rightL l = true) (hf : ∀ i, l.f i < 4294967296) : (encL l).length ≤ 200 := by
  obtain ⟨nd, ca, se, hl, h1, h2, h3, h4, h5, h6, h7, h8⟩ := lab_nats hr
  have e1 := enc_len l.t (by omega)
  have e2 := enc_len nd (by omega)
  have e3 := enc_len l.n (by omega)
  have e4 := enc_len ca (by omega)
  have e5 := enc_len se (by omega)
  have e6 := encV_len l.f hf
  rw [hl]
  show (enc l.t ++ enc nd ++ enc l.n ++ enc ca ++ enc se ++ encV l.f).length ≤ 200
  simp only [List.length_append]
  omega

section
variable (l : Lab) (W : World)
end
end Go.Proofs.YtkigaclcmodjaaaGreat

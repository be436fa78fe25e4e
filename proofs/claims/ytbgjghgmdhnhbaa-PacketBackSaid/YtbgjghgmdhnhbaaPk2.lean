/-
packet: a packet's bytes.
-/
import Derived.Test.YtbgjghgmdhnhbaaPk
namespace Go.Proofs.Ytbgjghgmdhnhbaa
open Go.RowKit
set_option linter.unusedSimpArgs false
set_option linter.unusedVariables false
namespace Pk
def ackN (k : Bool) : Nat := if k then 1 else 0
def encB (p : Pt) : List Nat := enc (ackN p.k) ++ enc p.f.toNat ++ enc p.t.toNat ++ enc p.q ++ (if p.k then [] else enc p.bs.length ++ p.bs)
def encP (p : Pt) : List Nat := encB p ++ enc (Crc.sum (encB p))
structure Rt (p : Pt) : Prop where
  f1 : 1 ≤ p.f
  f2 : p.f ≤ 12
  t1 : 1 ≤ p.t
  t2 : p.t ≤ 12
  ne : p.f ≠ p.t
  q1 : 1 ≤ p.q
  q2 : p.q ≤ 1099511627776
  d : dataB p.k p.bs.length = true
theorem right_of {p : Pt} (h : rightB p = true) : Rt p := by
  unfold rightB nodeB seqB at h
  simp only [Bool.and_eq_true, decide_eq_true_eq] at h
  obtain ⟨⟨⟨⟨⟨h1, h2⟩, h3, h4⟩, h5⟩, h6, h7⟩, h8⟩ := h
  exact ⟨h1, h2, h3, h4, h5, h6, h7, h8⟩
theorem of_right {p : Pt} (h : Rt p) : rightB p = true := by
  unfold rightB nodeB seqB
  simp only [Bool.and_eq_true, decide_eq_true_eq]
  exact ⟨⟨⟨⟨⟨h.f1, h.f2⟩, h.t1, h.t2⟩, h.ne⟩, h.q1, h.q2⟩, h.d⟩
theorem Rt.len {p : Pt} (h : Rt p) : p.bs.length ≤ 1800 := by
  have := h.d
  unfold dataB at this
  split at this
  · simp only [decide_eq_true_eq] at this; omega
  · simp only [decide_eq_true_eq, Bool.and_eq_true] at this; omega
structure Pc.Ok (W : World) (x : Pc) : Prop where
  hc : x.p.bs.length ≤ x.c
  h256 : ∀ y ∈ x.p.bs, y < 256
  rd : Byt.ByR W x.A x.p.bs
  hA : x.A = none → x.p.bs = []
theorem Pc.Ok.next {W w : World} {x : Pc} (h : x.Ok W) (hb : Below W.heap.size W w) : x.Ok w := { h with rd := h.rd.next hb }
theorem Pc.Ok.src {W : World} {x : Pc} (h : x.Ok W) : Src W x.A x.p.bs.length (u8s x.p.bs) := h.rd.src h.hA
section
variable (W : World)
set_option maxRecDepth 20000 in
theorem equal_any (A B : Option Addr) (m n c d : Nat) (xs bs : List Nat) (hm : xs.length = m) (hn : bs.length = n) (ha : Byt.ByR W A xs) (hA : A = none → xs = []) (hb : Byt.ByR W B bs) (hB : B = none → bs = []) (h1 : ∀ y ∈ xs, y < 256) (h2 : ∀ y ∈ bs, y < 256) :
    Calls Try.prog 41 #[.slice A m c, .slice B n d] W fun e W' => e = .returned (.bool (decide (xs = bs))) ∧ W = W' := by
  have k1 := Byt.conv_src W A m c xs (hm ▸ ha.src hA) hm h1
  have k2 := Byt.conv_src W B n d bs (hn ▸ hb.src hB) hn h2
  have k3 := Sx.str_eql W xs bs h1 h2
  have k4 := Sx.toList_beq xs bs h1 h2
  clear hm hn ha hA hb hB h1 h2
  go_enter Try.func41, Try.ntmps41
  go_wp2_with fail
  go_ret
  exact ⟨by first | rfl | (rw [← k4]; rfl), rfl⟩
set_option maxRecDepth 20000 in
set_option maxHeartbeats 4000000 in
theorem body_any (x : Pc) (hr : Rt x.p) (ho : x.Ok W) : Calls Try.prog 32 #[.agg x.cells.toArray] W fun e W' =>
    ∃ g B, e = .returned (.pointer (some ⟨g, 0, none⟩)) ∧ W.heap.size ≤ B ∧ Wtr W' B g (encB x.p) ∧ Below W.heap.size W W' := by
  obtain ⟨w1, hw1⟩ : ∃ w1, w1 = W.alloc (.cells x.cells.toArray 25) := ⟨_, rfl⟩
  have hb1 : Below W.heap.size W w1 := by rw [hw1]; exact (Below.refl _ _).alloc (Nat.le_refl _) _
  have hx : Blk w1 W.heap.size 25 x.cells.toArray := by rw [hw1]; exact Blk.new _ _ _
  have c0 : w1.cell? ⟨W.heap.size, 0, none⟩ = some (.bool x.p.k) := hx.cell 0
  have c1 : w1.cell? ⟨W.heap.size, 1, none⟩ = some (.int .i64 x.p.f) := hx.cell 1
  have c2 : w1.cell? ⟨W.heap.size, 2, none⟩ = some (.int .i64 x.p.t) := hx.cell 2
  have c3 : w1.cell? ⟨W.heap.size, 3, none⟩ = some (.int .u64 (x.p.q : Nat)) := hx.cell 3
  have HX := Lib.hid hx
  have HB := Lib.hid hb1
  have HO := Lib.hid ho
  have HR := Lib.hid hr
  obtain ⟨f, hf⟩ : ∃ f : Nat, f = x.p.f.toNat := ⟨_, rfl⟩
  obtain ⟨t, ht⟩ : ∃ t : Nat, t = x.p.t.toNat := ⟨_, rfl⟩
  have hf1 : x.p.f = (f : Nat) := by have := hr.f1; omega
  have ht1 : x.p.t = (t : Nat) := by have := hr.t1; omega
  have hft : f ≤ 12 ∧ t ≤ 12 := by have := hr.f2; have := hr.t2; omega
  have HFT := Lib.hid hft
  rw [hf1] at c1
  rw [ht1] at c2
  have HEF := Lib.hid (And.intro hf (And.intro ht (And.intro hf1 ht1)))
  have hcells : x.cells.toArray = #[.bool x.p.k, .int .i64 (f : Nat), .int .i64 (t : Nat), .int .u64 (x.p.q : Nat), .slice x.A x.p.bs.length x.c] := by unfold Pc.cells; rw [hf1, ht1]
  rw [hcells] at hw1 ⊢
  have HW := Lib.hid hw1
  have e1 : IntKind.u64.wrap (f : Int) = (f : Nat) := by rw [IntKind.wrap_u64]; omega
  have e2 : IntKind.u64.wrap (t : Int) = (t : Nat) := by clear e1; rw [IntKind.wrap_u64]; omega
  have E1 := Lib.hid e1
  have E2 := Lib.hid e2
  clear hf ht hf1 ht1 hft hx hb1 hr ho hcells hw1 e1 e2
  obtain ⟨k, hk⟩ : ∃ k, k = x.p.k := ⟨_, rfl⟩
  have HK := Lib.hid hk
  rw [← hk] at c0 HW ⊢
  clear hk
  cases k with
  | true =>
    go_enter Try.func32, Try.ntmps32
    go_upto_region 1 with fail
    rw [← HW.out]
    go_upto_region 4 with fail
    have e1 := E1.out
    have e2 := E2.out
    refine wp_region_tree (S := (fun w' => w'.cell? ⟨W.heap.size, 1, none⟩ = some (.int .i64 (f : Nat)) ∧ w'.cell? ⟨W.heap.size, 2, none⟩ = some (.int .i64 (t : Nat)) ∧ w'.cell? ⟨W.heap.size, 3, none⟩ = some (.int .u64 (x.p.q : Nat)))) (.take 1 (.take 3 (.take 4 (.take 5 (.take 7 (.take 8 (.take 9 (.take 11 (.take 12 (.one 0 (.one 2 (.one 6 (.one 10 (.one 13 (.take 14 .nil))))))))))))))) 9999 (by kernel_rfl) (by kernel_rfl) (by kernel_rfl) (by kernel_rfl) (by kernel_rfl) (fun _ _ d _ _ h => by cases d <;> exact h) ⟨c1, c2, c3⟩ (fun hHeld => ?_); simp only [Tree.map, List.getElem?_toArray, List.getElem?_cons_zero, List.getElem?_cons_succ]
    (repeat (first | (refine wpTree.take (v := undef) (Or.inr ⟨by rfl, rfl⟩) ?_; simp only [Act.put, List.setIfInBounds_toArray, List.set_cons_zero, List.set_cons_succ]) | (refine wpTree.take (v := ?_) (Or.inl ⟨by rfl, ?_⟩) ?_; rotate_left; (focus (intro _ hS; (try dsimp only at hS); go_split_ands; (try subst hS); go_simp; (try (with_reducible rfl)); done)); simp only [Act.put, List.setIfInBounds_toArray, List.set_cons_zero, List.set_cons_succ])))
    clear e1 e2
    refine wpTree.one (fun K hK => ?_)
    go_simp
    go_at_call 48
    refine (new_any w1.drew).mono ?_
    rintro e w2 ⟨rfl, hw, hb⟩
    have hx2 := HX.out.next ((Below.refl w1.heap.size w1).drew.trans hb)
    have H2 := Lib.hid (And.intro hw (And.intro ((Below.refl w1.heap.size w1).drew.trans hb) hx2))
    obtain ⟨B, hBe⟩ : ∃ B, B = w1.drew.heap.size := ⟨_, rfl⟩
    rw [← hBe] at H2 ⊢
    have HBE := Lib.hid (show W.heap.size < B ∧ W.heap.size ≤ B ∧ w1.heap.size = B by have h1 := HX.out.lt; have h2 : w1.drew.heap.size = w1.heap.size := rfl; omega)
    have cs := fun w (hb : Below B w2 w) (i : Nat) => hb.cell (p := ⟨W.heap.size, i, none⟩) HBE.out.1
    have CS := Lib.hid cs
    have d1 : w2.cell? ⟨W.heap.size, 1, none⟩ = some (.int .i64 (f : Nat)) := by rw [← c1]; exact ((Below.refl w1.heap.size w1).drew.trans hb).cell (p := ⟨W.heap.size, 1, none⟩) HX.out.lt
    have d2 : w2.cell? ⟨W.heap.size, 2, none⟩ = some (.int .i64 (t : Nat)) := by rw [← c2]; exact ((Below.refl w1.heap.size w1).drew.trans hb).cell (p := ⟨W.heap.size, 2, none⟩) HX.out.lt
    have d3 : w2.cell? ⟨W.heap.size, 3, none⟩ = some (.int .u64 (x.p.q : Nat)) := by rw [← c3]; exact ((Below.refl w1.heap.size w1).drew.trans hb).cell (p := ⟨W.heap.size, 3, none⟩) HX.out.lt
    have HD := Lib.hid (And.intro d1 (And.intro d2 d3))
    refine hK.out _ _ ⟨d1, d2, d3⟩ (fun _ => ?_)
    clear hK K hHeld hw hb hx2 hBe cs d1 d2 d3 c1 c2 c3
    (try simp only [Act.put, List.setIfInBounds_toArray, List.set_cons_zero, List.set_cons_succ])
    refine wpTree.one (fun K hK => ?_)
    go_simp
    go_at_call 33
    refine (wnum_any B B 1 [] w2 H2.out.1 (by first | omega | (have := HFT.out; omega) | (have := HR.out.q2; omega)) (by have := enc_len f (by have := HFT.out; omega); have := enc_len t (by have := HFT.out; omega); have := enc_len x.p.q (by have := HR.out.q2; omega); simp only [List.length_append, List.length_nil]; have := enc_len 1 (by omega); omega)).mono ?_
    rintro e w3 ⟨rfl, hw, ho⟩
    have H3 := Lib.hid (And.intro hw ((Below.refl B w2).trans ho.1))
    refine hK.out _ _ ⟨(CS.out _ H3.out.2 1).trans HD.out.1, (CS.out _ H3.out.2 2).trans HD.out.2.1, (CS.out _ H3.out.2 3).trans HD.out.2.2⟩ (fun _ => ?_)
    clear hK K hw ho
    (try simp only [Act.put, List.setIfInBounds_toArray, List.set_cons_zero, List.set_cons_succ])
    refine wpTree.one (fun K hK => ?_)
    go_simp
    go_at_call 33
    refine (wnum_any B B f ([] ++ enc 1) w3 H3.out.1 (by first | omega | (have := HFT.out; omega) | (have := HR.out.q2; omega)) (by have := enc_len f (by have := HFT.out; omega); have := enc_len t (by have := HFT.out; omega); have := enc_len x.p.q (by have := HR.out.q2; omega); simp only [List.length_append, List.length_nil]; have := enc_len 1 (by omega); omega)).mono ?_
    rintro e w4 ⟨rfl, hw, ho⟩
    have H4 := Lib.hid (And.intro hw ((H3.out.2).trans ho.1))
    refine hK.out _ _ ⟨(CS.out _ H4.out.2 1).trans HD.out.1, (CS.out _ H4.out.2 2).trans HD.out.2.1, (CS.out _ H4.out.2 3).trans HD.out.2.2⟩ (fun _ => ?_)
    clear hK K hw ho
    (try simp only [Act.put, List.setIfInBounds_toArray, List.set_cons_zero, List.set_cons_succ])
    refine wpTree.one (fun K hK => ?_)
    go_simp
    go_at_call 33
    refine (wnum_any B B t ([] ++ enc 1 ++ enc f) w4 H4.out.1 (by first | omega | (have := HFT.out; omega) | (have := HR.out.q2; omega)) (by have := enc_len f (by have := HFT.out; omega); have := enc_len t (by have := HFT.out; omega); have := enc_len x.p.q (by have := HR.out.q2; omega); simp only [List.length_append, List.length_nil]; have := enc_len 1 (by omega); omega)).mono ?_
    rintro e w5 ⟨rfl, hw, ho⟩
    have H5 := Lib.hid (And.intro hw ((H4.out.2).trans ho.1))
    refine hK.out _ _ ⟨(CS.out _ H5.out.2 1).trans HD.out.1, (CS.out _ H5.out.2 2).trans HD.out.2.1, (CS.out _ H5.out.2 3).trans HD.out.2.2⟩ (fun _ => ?_)
    clear hK K hw ho
    (try simp only [Act.put, List.setIfInBounds_toArray, List.set_cons_zero, List.set_cons_succ])
    refine wpTree.one (fun K hK => ?_)
    go_simp
    go_at_call 33
    refine (wnum_any B B x.p.q ([] ++ enc 1 ++ enc f ++ enc t) w5 H5.out.1 (by first | omega | (have := HFT.out; omega) | (have := HR.out.q2; omega)) (by have := enc_len f (by have := HFT.out; omega); have := enc_len t (by have := HFT.out; omega); have := enc_len x.p.q (by have := HR.out.q2; omega); simp only [List.length_append, List.length_nil]; have := enc_len 1 (by omega); omega)).mono ?_
    rintro e w6 ⟨rfl, hw, ho⟩
    have H6 := Lib.hid (And.intro hw ((H5.out.2).trans ho.1))
    refine hK.out _ _ ⟨(CS.out _ H6.out.2 1).trans HD.out.1, (CS.out _ H6.out.2 2).trans HD.out.2.1, (CS.out _ H6.out.2 3).trans HD.out.2.2⟩ (fun _ => ?_)
    clear hK K hw ho
    (try simp only [Act.put, List.setIfInBounds_toArray, List.set_cons_zero, List.set_cons_succ])
    (repeat (first | (refine wpTree.take (v := undef) (Or.inr ⟨by rfl, rfl⟩) ?_; simp only [Act.put, List.setIfInBounds_toArray, List.set_cons_zero, List.set_cons_succ]) | (refine wpTree.take (v := ?_) (Or.inl ⟨by rfl, ?_⟩) ?_; rotate_left; (focus (intro _ hS; (try dsimp only at hS); go_split_ands; (try subst hS); go_simp; (try (with_reducible rfl)); done)); simp only [Act.put, List.setIfInBounds_toArray, List.set_cons_zero, List.set_cons_succ])))
    refine wpTree.done ?_
    have d0 : w6.cell? ⟨W.heap.size, 0, none⟩ = some (.bool true) := (CS.out _ H6.out.2 0).trans ((H2.out.2.1.cell (p := ⟨W.heap.size, 0, none⟩) HX.out.lt).trans c0)
    clear c0
    go_wp2_with fail
    go_ret
    refine ⟨B, B, rfl, HBE.out.2.1, ?_, HB.out.trans ((H2.out.2.1.trans (H6.out.2.mono (Nat.le_of_eq HBE.out.2.2))).mono HB.out.size)⟩
    have := H6.out.1
    unfold encB ackN
    rw [← HK.out, if_pos rfl, if_pos rfl, ← HEF.out.1, ← HEF.out.2.1, List.append_nil]
    simpa using this
  | false =>
    go_enter Try.func32, Try.ntmps32
    go_upto_region 1 with fail
    rw [← HW.out]
    go_upto_region 4 with fail
    have e1 := E1.out
    have e2 := E2.out
    refine wp_region_tree (S := (fun w' => w'.cell? ⟨W.heap.size, 1, none⟩ = some (.int .i64 (f : Nat)) ∧ w'.cell? ⟨W.heap.size, 2, none⟩ = some (.int .i64 (t : Nat)) ∧ w'.cell? ⟨W.heap.size, 3, none⟩ = some (.int .u64 (x.p.q : Nat)))) (.take 1 (.take 3 (.take 4 (.take 5 (.take 7 (.take 8 (.take 9 (.take 11 (.take 12 (.one 0 (.one 2 (.one 6 (.one 10 (.one 13 (.take 14 .nil))))))))))))))) 9999 (by kernel_rfl) (by kernel_rfl) (by kernel_rfl) (by kernel_rfl) (by kernel_rfl) (fun _ _ d _ _ h => by cases d <;> exact h) ⟨c1, c2, c3⟩ (fun hHeld => ?_); simp only [Tree.map, List.getElem?_toArray, List.getElem?_cons_zero, List.getElem?_cons_succ]
    (repeat (first | (refine wpTree.take (v := undef) (Or.inr ⟨by rfl, rfl⟩) ?_; simp only [Act.put, List.setIfInBounds_toArray, List.set_cons_zero, List.set_cons_succ]) | (refine wpTree.take (v := ?_) (Or.inl ⟨by rfl, ?_⟩) ?_; rotate_left; (focus (intro _ hS; (try dsimp only at hS); go_split_ands; (try subst hS); go_simp; (try (with_reducible rfl)); done)); simp only [Act.put, List.setIfInBounds_toArray, List.set_cons_zero, List.set_cons_succ])))
    clear e1 e2
    refine wpTree.one (fun K hK => ?_)
    go_simp
    go_at_call 48
    refine (new_any w1.drew).mono ?_
    rintro e w2 ⟨rfl, hw, hb⟩
    have hx2 := HX.out.next ((Below.refl w1.heap.size w1).drew.trans hb)
    have H2 := Lib.hid (And.intro hw (And.intro ((Below.refl w1.heap.size w1).drew.trans hb) hx2))
    obtain ⟨B, hBe⟩ : ∃ B, B = w1.drew.heap.size := ⟨_, rfl⟩
    rw [← hBe] at H2 ⊢
    have HBE := Lib.hid (show W.heap.size < B ∧ W.heap.size ≤ B ∧ w1.heap.size = B by have h1 := HX.out.lt; have h2 : w1.drew.heap.size = w1.heap.size := rfl; omega)
    have cs := fun w (hb : Below B w2 w) (i : Nat) => hb.cell (p := ⟨W.heap.size, i, none⟩) HBE.out.1
    have CS := Lib.hid cs
    have d1 : w2.cell? ⟨W.heap.size, 1, none⟩ = some (.int .i64 (f : Nat)) := by rw [← c1]; exact ((Below.refl w1.heap.size w1).drew.trans hb).cell (p := ⟨W.heap.size, 1, none⟩) HX.out.lt
    have d2 : w2.cell? ⟨W.heap.size, 2, none⟩ = some (.int .i64 (t : Nat)) := by rw [← c2]; exact ((Below.refl w1.heap.size w1).drew.trans hb).cell (p := ⟨W.heap.size, 2, none⟩) HX.out.lt
    have d3 : w2.cell? ⟨W.heap.size, 3, none⟩ = some (.int .u64 (x.p.q : Nat)) := by rw [← c3]; exact ((Below.refl w1.heap.size w1).drew.trans hb).cell (p := ⟨W.heap.size, 3, none⟩) HX.out.lt
    have HD := Lib.hid (And.intro d1 (And.intro d2 d3))
    refine hK.out _ _ ⟨d1, d2, d3⟩ (fun _ => ?_)
    clear hK K hHeld hw hb hx2 hBe cs d1 d2 d3 c1 c2 c3
    (try simp only [Act.put, List.setIfInBounds_toArray, List.set_cons_zero, List.set_cons_succ])
    refine wpTree.one (fun K hK => ?_)
    go_simp
    go_at_call 33
    refine (wnum_any B B 0 [] w2 H2.out.1 (by first | omega | (have := HFT.out; omega) | (have := HR.out.q2; omega)) (by have := enc_len f (by have := HFT.out; omega); have := enc_len t (by have := HFT.out; omega); have := enc_len x.p.q (by have := HR.out.q2; omega); simp only [List.length_append, List.length_nil]; have := enc_len 0 (by omega); omega)).mono ?_
    rintro e w3 ⟨rfl, hw, ho⟩
    have H3 := Lib.hid (And.intro hw ((Below.refl B w2).trans ho.1))
    refine hK.out _ _ ⟨(CS.out _ H3.out.2 1).trans HD.out.1, (CS.out _ H3.out.2 2).trans HD.out.2.1, (CS.out _ H3.out.2 3).trans HD.out.2.2⟩ (fun _ => ?_)
    clear hK K hw ho
    (try simp only [Act.put, List.setIfInBounds_toArray, List.set_cons_zero, List.set_cons_succ])
    refine wpTree.one (fun K hK => ?_)
    go_simp
    go_at_call 33
    refine (wnum_any B B f ([] ++ enc 0) w3 H3.out.1 (by first | omega | (have := HFT.out; omega) | (have := HR.out.q2; omega)) (by have := enc_len f (by have := HFT.out; omega); have := enc_len t (by have := HFT.out; omega); have := enc_len x.p.q (by have := HR.out.q2; omega); simp only [List.length_append, List.length_nil]; have := enc_len 0 (by omega); omega)).mono ?_
    rintro e w4 ⟨rfl, hw, ho⟩
    have H4 := Lib.hid (And.intro hw ((H3.out.2).trans ho.1))
    refine hK.out _ _ ⟨(CS.out _ H4.out.2 1).trans HD.out.1, (CS.out _ H4.out.2 2).trans HD.out.2.1, (CS.out _ H4.out.2 3).trans HD.out.2.2⟩ (fun _ => ?_)
    clear hK K hw ho
    (try simp only [Act.put, List.setIfInBounds_toArray, List.set_cons_zero, List.set_cons_succ])
    refine wpTree.one (fun K hK => ?_)
    go_simp
    go_at_call 33
    refine (wnum_any B B t ([] ++ enc 0 ++ enc f) w4 H4.out.1 (by first | omega | (have := HFT.out; omega) | (have := HR.out.q2; omega)) (by have := enc_len f (by have := HFT.out; omega); have := enc_len t (by have := HFT.out; omega); have := enc_len x.p.q (by have := HR.out.q2; omega); simp only [List.length_append, List.length_nil]; have := enc_len 0 (by omega); omega)).mono ?_
    rintro e w5 ⟨rfl, hw, ho⟩
    have H5 := Lib.hid (And.intro hw ((H4.out.2).trans ho.1))
    refine hK.out _ _ ⟨(CS.out _ H5.out.2 1).trans HD.out.1, (CS.out _ H5.out.2 2).trans HD.out.2.1, (CS.out _ H5.out.2 3).trans HD.out.2.2⟩ (fun _ => ?_)
    clear hK K hw ho
    (try simp only [Act.put, List.setIfInBounds_toArray, List.set_cons_zero, List.set_cons_succ])
    refine wpTree.one (fun K hK => ?_)
    go_simp
    go_at_call 33
    refine (wnum_any B B x.p.q ([] ++ enc 0 ++ enc f ++ enc t) w5 H5.out.1 (by first | omega | (have := HFT.out; omega) | (have := HR.out.q2; omega)) (by have := enc_len f (by have := HFT.out; omega); have := enc_len t (by have := HFT.out; omega); have := enc_len x.p.q (by have := HR.out.q2; omega); simp only [List.length_append, List.length_nil]; have := enc_len 0 (by omega); omega)).mono ?_
    rintro e w6 ⟨rfl, hw, ho⟩
    have H6 := Lib.hid (And.intro hw ((H5.out.2).trans ho.1))
    refine hK.out _ _ ⟨(CS.out _ H6.out.2 1).trans HD.out.1, (CS.out _ H6.out.2 2).trans HD.out.2.1, (CS.out _ H6.out.2 3).trans HD.out.2.2⟩ (fun _ => ?_)
    clear hK K hw ho
    (try simp only [Act.put, List.setIfInBounds_toArray, List.set_cons_zero, List.set_cons_succ])
    (repeat (first | (refine wpTree.take (v := undef) (Or.inr ⟨by rfl, rfl⟩) ?_; simp only [Act.put, List.setIfInBounds_toArray, List.set_cons_zero, List.set_cons_succ]) | (refine wpTree.take (v := ?_) (Or.inl ⟨by rfl, ?_⟩) ?_; rotate_left; (focus (intro _ hS; (try dsimp only at hS); go_split_ands; (try subst hS); go_simp; (try (with_reducible rfl)); done)); simp only [Act.put, List.setIfInBounds_toArray, List.set_cons_zero, List.set_cons_succ])))
    refine wpTree.done ?_
    have d0 : w6.cell? ⟨W.heap.size, 0, none⟩ = some (.bool false) := (CS.out _ H6.out.2 0).trans ((H2.out.2.1.cell (p := ⟨W.heap.size, 0, none⟩) HX.out.lt).trans c0)
    clear c0
    have d4 : w6.cell? ⟨W.heap.size, 4, none⟩ = some (.slice x.A x.p.bs.length x.c) := (CS.out _ H6.out.2 4).trans (H2.out.2.2.cell 4)
    have hbw : Below W.heap.size W w6 := HB.out.trans ((H2.out.2.1.trans (H6.out.2.mono (Nat.le_of_eq HBE.out.2.2))).mono HB.out.size)
    have HBW := Lib.hid hbw
    have HTX := Lib.hid (wtext_any B B x.p.bs.length x.c x.A _ x.p.bs w6 H6.out.1 rfl (by have := HR.out.len; have := enc_len f (by have := HFT.out; omega); have := enc_len t (by have := HFT.out; omega); have := enc_len x.p.q (by have := HR.out.q2; omega); simp only [List.length_append, List.length_nil]; have := enc_len 0 (by omega); omega) (fun w' hO => (HO.out.next (HBW.out.trans (hO.1.mono HBE.out.2.1))).src))
    clear hbw
    go_wp2_with (first | (go_at_call 55; refine HTX.out.mono ?_; rintro e w7 ⟨rfl, hw, ho⟩; have H7 := Lib.hid (And.intro hw (HBW.out.trans (ho.1.mono HBE.out.2.1))); clear hw ho))
    go_ret
    refine ⟨B, B, rfl, HBE.out.2.1, ?_, H7.out.2⟩
    have := H7.out.1
    unfold encB ackN
    rw [← HK.out, if_neg (by decide), if_neg (by decide), ← HEF.out.1, ← HEF.out.2.1]
    simpa [List.append_assoc] using this
end
end Pk
end Go.Proofs.Ytbgjghgmdhnhbaa

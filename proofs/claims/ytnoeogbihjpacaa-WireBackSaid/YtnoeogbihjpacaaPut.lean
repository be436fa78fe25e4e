/-
put: a part is written; the bytes that the document asks.
-/
import Derived.Test.YtnoeogbihjpacaaShort
namespace Go.Proofs.Ytnoeogbihjpacaa
open Go.RowKit

/-- A part's cells. -/
def partC (k i mo : Int) (n : Nat) (bv : Value) (f : Nat → Nat) : List Value := [.int .i64 k, .int .i64 i, .int .i64 mo, .int .u64 (n : Nat), bv] ++ vl f
section
variable {k i mo : Int} {n : Nat} {bv : Value} {f : Nat → Nat}
theorem partC_0 : (partC k i mo n bv f)[0]? = some (.int .i64 k) := rfl
theorem partC_1 : (partC k i mo n bv f)[1]? = some (.int .i64 i) := rfl
theorem partC_2 : (partC k i mo n bv f)[2]? = some (.int .i64 mo) := rfl
theorem partC_3 : (partC k i mo n bv f)[3]? = some (.int .u64 (n : Nat)) := rfl
theorem partC_4 : (partC k i mo n bv f)[4]? = some bv := rfl
theorem partC_5 (j : Nat) : (partC k i mo n bv f)[5 + j]? = (vl f)[j]? := by
  unfold partC; rw [List.getElem?_append_right (by simp)]; simp
theorem partC_len : (partC k i mo n bv f).length = 17 := by unfold partC; rw [List.length_append, vl_len]; rfl
end
attribute [irreducible] partC
theorem part_range {W : World} {g : Nat} {t : TypeId} {k i mo : Int} {n : Nat} {bv : Value} {f : Nat → Nat} (h : Blk W g t (partC k i mo n bv f).toArray) : W.rangeAt g 5 (vl f) := by
  intro j v hv
  rw [h.cell, List.getElem?_toArray, partC_5, hv]

/-- A call behind which the box is as it was. -/
def Kept (bx : Nat) (cs : Array Value) (W W' : World) : Prop := W.heap.size ≤ W'.heap.size ∧ Blk W' bx 32 cs

/-- What put hands back, and what it leaves. -/
def PutPost (p : Value) (Q : World → Prop) (bs : List Nat) (e : Ending) (W' : World) : Prop := ∃ v W2, e = .returned (.tuple #[p, v]) ∧ Q W2 ∧ Made W2 W' v bs

section
variable (p : Value) (i mo : Int) (n : Nat) (bv : Value) (f : Nat → Nat) (W : World) (Q : World → Prop)

set_option maxRecDepth 20000 in
set_option maxHeartbeats 4000000 in
theorem put_num (k : Int) (hk : k = 0 ∨ k = 5) (hn : n < 18446744073709551616)
    (HW : ∀ W1, Below W.heap.size W W1 → Blk W1 W.heap.size 32 (partC k i mo n bv f).toArray → Calls Try.prog 19 #[p, .int .u64 (n : Nat)] W1 fun e W2 => e = .returned p ∧ Q W2 ∧ Kept W.heap.size (partC k i mo n bv f).toArray W1 W2) :
    Calls Try.prog 15 #[p, .agg (partC k i mo n bv f).toArray] W (PutPost p Q (enc n)) := by
  have b0 : Below W.heap.size W (W.alloc (.cells (partC k i mo n bv f).toArray 32)) := (Below.refl _ W).alloc (Nat.le_refl _) _
  have hB := Blk.new W 32 (partC k i mo n bv f).toArray
  have HC := Lib.hid (HW _ b0.drew hB.drew)
  have c0 := hB.cell 0
  rw [List.getElem?_toArray, partC_0] at c0
  have cx := hB.cell 3
  rw [List.getElem?_toArray, partC_3] at cx
  have HR := Lib.hid (fun W2 => rfnum_any n W2 hn)
  clear HW hn b0 hB
  rcases hk with rfl | rfl
  all_goals
    go_enter Try.func15, Try.ntmps15
    go_wp2_with fail
    refine wp_region_plan (S := (fun W' => W'.cell? ⟨W.heap.size, 3, none⟩ = some (.int .u64 (n : Nat)))) [(0, true), (1, true), (2, true), (4, true), (5, true), (3, false), (6, false), (7, true), (8, true)] 9999 (by kernel_rfl) (by kernel_rfl) (by kernel_rfl) (by kernel_rfl) (by kernel_rfl) (fun _ _ d _ _ h => by cases d <;> exact h) ?_ (fun hHeld => ?_); (focus (exact cx)); simp only [List.map_cons, List.map_nil, List.getElem?_toArray, List.getElem?_cons_zero, List.getElem?_cons_succ]
    (repeat (first | (refine wpPlan.take (v := undef) (Or.inr ⟨by rfl, rfl⟩) ?_; simp only [Act.put, List.setIfInBounds_toArray, List.set_cons_zero, List.set_cons_succ]) | (refine wpPlan.take (v := ?_) (Or.inl ⟨by rfl, ?_⟩) ?_; rotate_left; (focus (intro _ hS; (try dsimp only at hS); go_split_ands; (try subst hS); go_simp; (try (with_reducible rfl)); done)); simp only [Act.put, List.setIfInBounds_toArray, List.set_cons_zero, List.set_cons_succ])))
    refine wpPlan.carry (fun K hK => ?_)
    go_simp
    go_at_call 19
    refine HC.out.mono ?_
    rintro e w2 ⟨rfl, hQ, hKp⟩
    have cx2 := hKp.2.cell 3
    rw [List.getElem?_toArray, partC_3] at cx2
    (try rw [HBV.out] at cx2)
    refine hK.out _ _ cx2 (fun _ => ?_)
    clear hK K
    refine wpPlan.carry (fun K hK => ?_)
    go_simp
    go_at_call 62
    refine (HR.out w2).mono ?_
    rintro e w3 ⟨v, rfl, hM⟩
    refine hK.out _ _ ((hM.2.cell (p := ⟨W.heap.size, 3, none⟩) hKp.2.lt).trans cx2) (fun _ => ?_)
    clear hK K
    (repeat (first | (refine wpPlan.take (v := undef) (Or.inr ⟨by rfl, rfl⟩) ?_; simp only [Act.put, List.setIfInBounds_toArray, List.set_cons_zero, List.set_cons_succ]) | (refine wpPlan.take (v := ?_) (Or.inl ⟨by rfl, ?_⟩) ?_; rotate_left; (focus (intro _ hS; (try dsimp only at hS); go_split_ands; (try subst hS); go_simp; (try (with_reducible rfl)); done)); simp only [Act.put, List.setIfInBounds_toArray, List.set_cons_zero, List.set_cons_succ])))
    refine wpPlan.done ?_
    clear hHeld
    have HM := Lib.hid hM
    clear hM
    go_wp2_with fail
    go_ret2
    exact ⟨v, w2, rfl, hQ, HM.out⟩

set_option maxRecDepth 20000 in
set_option maxHeartbeats 4000000 in
theorem put_int (h1 : -9223372036854775808 ≤ i) (h2 : i ≤ 9223372036854775807)
    (HW : ∀ W1, Below W.heap.size W W1 → Blk W1 W.heap.size 32 (partC 1 i mo n bv f).toArray → Calls Try.prog 21 #[p, .int .i64 i] W1 fun e W2 => e = .returned p ∧ Q W2 ∧ Kept W.heap.size (partC 1 i mo n bv f).toArray W1 W2) :
    Calls Try.prog 15 #[p, .agg (partC 1 i mo n bv f).toArray] W (PutPost p Q (enc (zig i))) := by
  have b0 : Below W.heap.size W (W.alloc (.cells (partC 1 i mo n bv f).toArray 32)) := (Below.refl _ W).alloc (Nat.le_refl _) _
  have hB := Blk.new W 32 (partC 1 i mo n bv f).toArray
  have HC := Lib.hid (HW _ b0.drew hB.drew)
  have c0 := hB.cell 0
  rw [List.getElem?_toArray, partC_0] at c0
  have cx := hB.cell 1
  rw [List.getElem?_toArray, partC_1] at cx
  have HR := Lib.hid (fun W2 => rfint_any i W2 h1 h2)
  clear HW h1 h2 b0 hB
  all_goals
    go_enter Try.func15, Try.ntmps15
    go_wp2_with fail
    refine wp_region_plan (S := (fun W' => W'.cell? ⟨W.heap.size, 1, none⟩ = some (.int .i64 i))) [(0, true), (1, true), (2, true), (4, true), (5, true), (3, false), (6, false), (7, true), (8, true)] 9999 (by kernel_rfl) (by kernel_rfl) (by kernel_rfl) (by kernel_rfl) (by kernel_rfl) (fun _ _ d _ _ h => by cases d <;> exact h) ?_ (fun hHeld => ?_); (focus (exact cx)); simp only [List.map_cons, List.map_nil, List.getElem?_toArray, List.getElem?_cons_zero, List.getElem?_cons_succ]
    (repeat (first | (refine wpPlan.take (v := undef) (Or.inr ⟨by rfl, rfl⟩) ?_; simp only [Act.put, List.setIfInBounds_toArray, List.set_cons_zero, List.set_cons_succ]) | (refine wpPlan.take (v := ?_) (Or.inl ⟨by rfl, ?_⟩) ?_; rotate_left; (focus (intro _ hS; (try dsimp only at hS); go_split_ands; (try subst hS); go_simp; (try (with_reducible rfl)); done)); simp only [Act.put, List.setIfInBounds_toArray, List.set_cons_zero, List.set_cons_succ])))
    refine wpPlan.carry (fun K hK => ?_)
    go_simp
    go_at_call 21
    refine HC.out.mono ?_
    rintro e w2 ⟨rfl, hQ, hKp⟩
    have cx2 := hKp.2.cell 1
    rw [List.getElem?_toArray, partC_1] at cx2
    (try rw [HBV.out] at cx2)
    refine hK.out _ _ cx2 (fun _ => ?_)
    clear hK K
    refine wpPlan.carry (fun K hK => ?_)
    go_simp
    go_at_call 63
    refine (HR.out w2).mono ?_
    rintro e w3 ⟨v, rfl, hM⟩
    refine hK.out _ _ ((hM.2.cell (p := ⟨W.heap.size, 1, none⟩) hKp.2.lt).trans cx2) (fun _ => ?_)
    clear hK K
    (repeat (first | (refine wpPlan.take (v := undef) (Or.inr ⟨by rfl, rfl⟩) ?_; simp only [Act.put, List.setIfInBounds_toArray, List.set_cons_zero, List.set_cons_succ]) | (refine wpPlan.take (v := ?_) (Or.inl ⟨by rfl, ?_⟩) ?_; rotate_left; (focus (intro _ hS; (try dsimp only at hS); go_split_ands; (try subst hS); go_simp; (try (with_reducible rfl)); done)); simp only [Act.put, List.setIfInBounds_toArray, List.set_cons_zero, List.set_cons_succ])))
    refine wpPlan.done ?_
    clear hHeld
    have HM := Lib.hid hM
    clear hM
    go_wp2_with fail
    go_ret2
    exact ⟨v, w2, rfl, hQ, HM.out⟩

set_option maxRecDepth 20000 in
set_option maxHeartbeats 4000000 in
theorem put_text (A : Option Addr) (m c : Nat) (bs : List Nat) (hbv : bv = .slice A m c) (hm : bs.length = m) (hlen : m ≤ 500)
    (HW : ∀ W1, Below W.heap.size W W1 → Blk W1 W.heap.size 32 (partC 2 i mo n bv f).toArray → Calls Try.prog 23 #[p, .slice A m c] W1 fun e W2 => e = .returned p ∧ Q W2 ∧ Kept W.heap.size (partC 2 i mo n bv f).toArray W1 W2 ∧ Src W2 A m (u8s bs)) :
    Calls Try.prog 15 #[p, .agg (partC 2 i mo n bv f).toArray] W (PutPost p Q (enc m ++ bs)) := by
  have HBV := Lib.hid hbv
  clear hbv
  have b0 : Below W.heap.size W (W.alloc (.cells (partC 2 i mo n bv f).toArray 32)) := (Below.refl _ W).alloc (Nat.le_refl _) _
  have hB := Blk.new W 32 (partC 2 i mo n bv f).toArray
  have HC := Lib.hid (HW _ b0.drew hB.drew)
  have c0 := hB.cell 0
  rw [List.getElem?_toArray, partC_0] at c0
  have cx := (hB.cell 4).trans ((List.getElem?_toArray (i := 4)).trans (partC_4.trans (congrArg some HBV.out)))
  have HR := Lib.hid (fun W2 hS => rftext_any A m c bs W2 hm hS (by omega))
  clear HW hm hlen b0 hB
  all_goals
    go_enter Try.func15, Try.ntmps15
    go_wp2_with fail
    refine wp_region_plan (S := (fun W' => W'.cell? ⟨W.heap.size, 4, none⟩ = some (.slice A m c))) [(0, true), (1, true), (2, true), (4, true), (5, true), (3, false), (6, false), (7, true), (8, true)] 9999 (by kernel_rfl) (by kernel_rfl) (by kernel_rfl) (by kernel_rfl) (by kernel_rfl) (fun _ _ d _ _ h => by cases d <;> exact h) ?_ (fun hHeld => ?_); (focus (exact cx)); simp only [List.map_cons, List.map_nil, List.getElem?_toArray, List.getElem?_cons_zero, List.getElem?_cons_succ]
    (repeat (first | (refine wpPlan.take (v := undef) (Or.inr ⟨by rfl, rfl⟩) ?_; simp only [Act.put, List.setIfInBounds_toArray, List.set_cons_zero, List.set_cons_succ]) | (refine wpPlan.take (v := ?_) (Or.inl ⟨by rfl, ?_⟩) ?_; rotate_left; (focus (intro _ hS; (try dsimp only at hS); go_split_ands; (try subst hS); go_simp; (try (with_reducible rfl)); done)); simp only [Act.put, List.setIfInBounds_toArray, List.set_cons_zero, List.set_cons_succ])))
    refine wpPlan.carry (fun K hK => ?_)
    go_simp
    go_at_call 23
    refine HC.out.mono ?_
    rintro e w2 ⟨rfl, hQ, hKp, hSS⟩
    have cx2 := hKp.2.cell 4
    rw [List.getElem?_toArray, partC_4] at cx2
    (try rw [HBV.out] at cx2)
    refine hK.out _ _ cx2 (fun _ => ?_)
    clear hK K
    refine wpPlan.carry (fun K hK => ?_)
    go_simp
    go_at_call 64
    refine (HR.out w2 hSS).mono ?_
    rintro e w3 ⟨v, rfl, hM⟩
    refine hK.out _ _ ((hM.2.cell (p := ⟨W.heap.size, 4, none⟩) hKp.2.lt).trans cx2) (fun _ => ?_)
    clear hK K
    (repeat (first | (refine wpPlan.take (v := undef) (Or.inr ⟨by rfl, rfl⟩) ?_; simp only [Act.put, List.setIfInBounds_toArray, List.set_cons_zero, List.set_cons_succ]) | (refine wpPlan.take (v := ?_) (Or.inl ⟨by rfl, ?_⟩) ?_; rotate_left; (focus (intro _ hS; (try dsimp only at hS); go_split_ands; (try subst hS); go_simp; (try (with_reducible rfl)); done)); simp only [Act.put, List.setIfInBounds_toArray, List.set_cons_zero, List.set_cons_succ])))
    refine wpPlan.done ?_
    clear hHeld
    have HM := Lib.hid hM
    clear hM
    go_wp2_with fail
    go_ret2
    exact ⟨v, w2, rfl, hQ, HM.out⟩

set_option maxRecDepth 20000 in
set_option maxHeartbeats 4000000 in
theorem put_float (hn : n < 18446744073709551616)
    (HW : ∀ W1, Below W.heap.size W W1 → Blk W1 W.heap.size 32 (partC 3 i mo n bv f).toArray → Calls Try.prog 25 #[p, .float .f64 n] W1 fun e W2 => e = .returned p ∧ Q W2 ∧ Kept W.heap.size (partC 3 i mo n bv f).toArray W1 W2) :
    Calls Try.prog 15 #[p, .agg (partC 3 i mo n bv f).toArray] W (PutPost p Q (encF n)) := by
  have b0 : Below W.heap.size W (W.alloc (.cells (partC 3 i mo n bv f).toArray 32)) := (Below.refl _ W).alloc (Nat.le_refl _) _
  have hB := Blk.new W 32 (partC 3 i mo n bv f).toArray
  have HC := Lib.hid (HW _ b0 hB)
  have c0 := hB.cell 0
  rw [List.getElem?_toArray, partC_0] at c0
  have cx := hB.cell 3
  rw [List.getElem?_toArray, partC_3] at cx
  have HR := Lib.hid (fun W2 => rffloat_any n W2 hn)
  have cf := call_frombits
  clear HW hn b0 hB
  go_enter Try.func15, Try.ntmps15
  go_wp2_with (first | (go_at_call 25; refine HC.out.mono ?_; rintro e w2 ⟨rfl, hQ, hKp⟩; clear hKp) | (go_at_call 66; refine (HR.out _).mono ?_; rintro e w3 ⟨v, rfl, hM⟩; have HM := Lib.hid hM; clear hM))
  go_ret2
  exact ⟨v, w2, rfl, hQ, HM.out⟩

set_option maxRecDepth 20000 in
set_option maxHeartbeats 4000000 in
theorem put_vector (hf : ∀ i, f i < 4294967296)
    (HW : ∀ W1, Below W.heap.size W W1 → Blk W1 W.heap.size 32 (partC 4 i mo n bv f).toArray → Calls Try.prog 27 #[p, .agg (vl f).toArray] W1 fun e W2 => e = .returned p ∧ Q W2 ∧ Kept W.heap.size (partC 4 i mo n bv f).toArray W1 W2) :
    Calls Try.prog 15 #[p, .agg (partC 4 i mo n bv f).toArray] W (PutPost p Q (encV f)) := by
  have b0 : Below W.heap.size W (W.alloc (.cells (partC 4 i mo n bv f).toArray 32)) := (Below.refl _ W).alloc (Nat.le_refl _) _
  have hB := Blk.new W 32 (partC 4 i mo n bv f).toArray
  have HC := Lib.hid (HW _ b0.drew hB.drew)
  have c0 := hB.cell 0
  rw [List.getElem?_toArray, partC_0] at c0
  have cx := part_range hB.drew
  have HR := Lib.hid (fun W2 => rfvector_any f hf W2)
  clear HW hf b0 hB
  go_enter Try.func15, Try.ntmps15
  go_wp2_with fail
  refine wp_region_plan (S := (fun W' => W'.rangeAt W.heap.size 5 (vl f))) [(0, true), (1, true), (2, true), (4, true), (5, true), (3, false), (6, false), (7, true), (8, true)] 9999 (by kernel_rfl) (by kernel_rfl) (by kernel_rfl) (by kernel_rfl) (by kernel_rfl) (fun _ _ d _ _ h => by cases d <;> exact h) ?_ (fun hHeld => ?_); (focus (exact cx)); simp only [List.map_cons, List.map_nil, List.getElem?_toArray, List.getElem?_cons_zero, List.getElem?_cons_succ]
  (repeat (first | (refine wpPlan.take (v := undef) (Or.inr ⟨by rfl, rfl⟩) ?_; simp only [Act.put, List.setIfInBounds_toArray, List.set_cons_zero, List.set_cons_succ]) | (refine wpPlan.take (v := .agg (vl ?_).toArray) (yieldsIf_load_mid rfl 30 _ rfl _ _ rfl (vl _) _ ?_ Try.underlying30 rfl (vinfoL _)) ?_; rotate_left; (focus (intro _ hS; (try dsimp only at hS); go_split_ands; assumption)); simp only [Act.put, List.setIfInBounds_toArray, List.set_cons_zero, List.set_cons_succ]) | (refine wpPlan.take (v := ?_) (Or.inl ⟨by rfl, ?_⟩) ?_; rotate_left; (focus (intro _ hS; (try dsimp only at hS); go_split_ands; (try subst hS); go_simp; (try (with_reducible rfl)); done)); simp only [Act.put, List.setIfInBounds_toArray, List.set_cons_zero, List.set_cons_succ])))
  refine wpPlan.carry (fun K hK => ?_)
  go_simp
  go_at_call 27
  refine HC.out.mono ?_
  rintro e w2 ⟨rfl, hQ, hKp⟩
  refine hK.out _ _ (part_range hKp.2) (fun _ => ?_)
  clear hK K
  refine wpPlan.carry (fun K hK => ?_)
  go_simp
  go_at_call 67
  refine (HR.out w2).mono ?_
  rintro e w3 ⟨v, rfl, hM⟩
  refine hK.out _ _ (part_range (hKp.2.next hM.2)) (fun _ => ?_)
  clear hK K
  (repeat (first | (refine wpPlan.take (v := undef) (Or.inr ⟨by rfl, rfl⟩) ?_; simp only [Act.put, List.setIfInBounds_toArray, List.set_cons_zero, List.set_cons_succ]) | (refine wpPlan.take (v := ?_) (Or.inl ⟨by rfl, ?_⟩) ?_; rotate_left; (focus (intro _ hS; (try dsimp only at hS); go_split_ands; (try subst hS); go_simp; (try (with_reducible rfl)); done)); simp only [Act.put, List.setIfInBounds_toArray, List.set_cons_zero, List.set_cons_succ])))
  refine wpPlan.done ?_
  clear hHeld
  have HM := Lib.hid hM
  clear hM
  go_wp2_with fail
  go_ret2
  exact ⟨v, w2, rfl, hQ, HM.out⟩

set_option maxRecDepth 20000 in
set_option maxHeartbeats 4000000 in
theorem put_none (k : Int) (h0 : k ≠ 0) (h1 : k ≠ 1) (h2 : k ≠ 2) (h3 : k ≠ 3) (h4 : k ≠ 4) (h5 : k ≠ 5) (HQ : ∀ W1, Below W.heap.size W W1 → Q W1) :
    Calls Try.prog 15 #[p, .agg (partC k i mo n bv f).toArray] W (PutPost p Q []) := by
  have b0 : Below W.heap.size W (W.alloc (.cells (partC k i mo n bv f).toArray 32)) := (Below.refl _ W).alloc (Nat.le_refl _) _
  have hQ := HQ _ b0
  have c0 := (Blk.new W 32 (partC k i mo n bv f).toArray).cell 0
  rw [List.getElem?_toArray, partC_0] at c0
  have e0 : (k == 0) = false := by simpa using h0
  have e1 : (k == 1) = false := by simpa using h1
  have e2 : (k == 2) = false := by simpa using h2
  have e3 : (k == 3) = false := by simpa using h3
  have e4 : (k == 4) = false := by simpa using h4
  have e5 : (k == 5) = false := by simpa using h5
  clear h0 h1 h2 h3 h4 h5 HQ b0
  go_enter Try.func15, Try.ntmps15
  go_wp2_with fail
  go_ret2
  exact ⟨_, _, rfl, hQ, World.ownsRow_nil _ _ _ _, Below.refl _ _⟩
end
end Go.Proofs.Ytnoeogbihjpacaa

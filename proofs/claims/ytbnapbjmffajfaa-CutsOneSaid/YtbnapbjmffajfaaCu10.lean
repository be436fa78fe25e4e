/-
cuts: what a home said, written.
-/
import Derived.Test.YtbnapbjmffajfaaCu9
import Derived.Test.YtbnapbjmffajfaaWriteV
namespace Go.Proofs.Ytbnapbjmffajfaa
open Go.RowKit
set_option linter.unusedSimpArgs false
set_option linter.unusedVariables false

theorem noRow_blk {W : World} {k : Nat} {t : TypeId} {cs : Array Value} (h : Blk W k t cs) (ht : t ≠ 5) : NoRow W k := by
  intro cur m e
  unfold Blk at h
  rw [h] at e
  simp only [Option.some.injEq, Obj.cells.injEq] at e
  exact ht e.2.1
theorem Blk.wrote {W W' : World} {B g k : Nat} {t : TypeId} {cs : Array Value} {bs : List Nat} (h : Blk W k t cs) (ht : t ≠ 5) (hw : Wtr W B g bs) (hr : Wrote B g W W') (hk : k ≠ g) : Blk W' k t cs :=
  (hr.2.1 k h.lt hk (noRow_row hw (noRow_blk h ht))).trans h
/-- The bytes of what a home said. -/
def encSd (x : Sd) : List Nat := if x.is then (if x.s.h then enc 2 ++ enc x.s.t ++ encV x.s.f else enc 1) else enc 0
def Sd.Ok (x : Sd) : Prop := x.s.t < 18446744073709551616 ∧ ∀ i, x.s.f i < 4294967296
theorem enc_small {n : Nat} (h : n < 18446744073709551616) : (enc n).length ≤ 10 := enc_len n h
set_option maxHeartbeats 4000000 in
set_option maxRecDepth 20000 in
theorem put_said (B g : Nat) (x : Sd) (bs : List Nat) (W : World) (h : Wtr W B g bs) (hx : x.Ok) (hlen : bs.length + 300 ≤ 140737488355328) :
    Calls Try.prog 28 #[.pointer (some ⟨g, 0, none⟩), .agg x.cells.toArray] W fun e W' => e = .returned (.tuple #[]) ∧ Wtr W' B g (bs ++ encSd x) ∧ Wrote B g W W' := by
  have hb := (Below.refl W.heap.size W).alloc (Nat.le_refl _) (.cells x.cells.toArray 61)
  have b0 := Blk.new W 61 x.cells.toArray
  obtain ⟨-, rv, -, q0, q1, q2⟩ := sd_all b0
  have HW0 := Lib.hid (h.next hb)
  have HR0 := Lib.hid (Wrote.ofBelow hb (Nat.le_trans h.1 (Nat.le_of_lt h.lt)) h.lt)
  have HB0 := Lib.hid b0
  have HG := Lib.hid (show W.heap.size ≠ g from Nat.ne_of_gt h.lt)
  have HX := Lib.hid hx
  have HL := Lib.hid hlen
  unfold encSd
  clear h hb b0 hx hlen
  cases hi : x.is with
  | false =>
    rw [hi] at q0
    clear hi rv q1 q2
    go_enter Try.func28, Try.ntmps28
    go_wp2_with (go_at_call 26; refine (wnum_any B g 0 bs _ HW0.out (by decide) (by have := HL.out; omega)).mono ?_; rintro e W1 ⟨rfl, hw, hr⟩; have HW1 := Lib.hid hw; have HR1 := Lib.hid (HR0.out.trans hr); clear hw hr)
    exact ⟨rfl, .tuple #[], by simp [results, Try.results28, go_sem], rfl, HW1.out, HR1.out⟩
  | true =>
    rw [hi] at q0
    clear hi
    cases hh : x.s.h with
    | false =>
      rw [hh] at q1
      clear hh rv q2
      go_enter Try.func28, Try.ntmps28
      go_wp2_with (go_at_call 26; refine (wnum_any B g 1 bs _ HW0.out (by decide) (by have := HL.out; omega)).mono ?_; rintro e W1 ⟨rfl, hw, hr⟩; have HW1 := Lib.hid hw; have HR1 := Lib.hid (HR0.out.trans hr); clear hw hr)
      exact ⟨rfl, .tuple #[], by simp [results, Try.results28, go_sem], rfl, HW1.out, HR1.out⟩
    | true =>
      rw [hh] at q1
      clear hh
      go_enter Try.func28, Try.ntmps28
      go_upto_region 1 with fail
      obtain ⟨w1, hw1⟩ : ∃ w1, w1 = W.alloc (.cells x.cells.toArray 61) := ⟨_, rfl⟩
      rw [← hw1] at HW0 HR0 HB0 rv q0 q1 q2 ⊢
      clear hw1 q0 q1
      refine wp_region_tree (S := (fun w' => w'.cell? ⟨W.heap.size, 2, none⟩ = some (.int .u64 (x.s.t : Nat)) ∧ w'.rangeAt W.heap.size 3 (vl x.s.f))) (.take 0 (.take 2 (.take 3 (.take 4 (.take 6 (.take 7 (.take 8 (.one 1 (.one 5 (.one 9 .nil)))))))))) 9999 (by kernel_rfl) (by kernel_rfl) (by kernel_rfl) (by kernel_rfl) (by kernel_rfl) (fun _ _ d _ _ h => by cases d <;> exact h) ⟨q2, rv⟩ (fun hHeld => ?_); simp only [Tree.map, List.getElem?_toArray, List.getElem?_cons_zero, List.getElem?_cons_succ]
      (repeat (first | (refine wpTree.take (v := undef) (Or.inr ⟨by rfl, rfl⟩) ?_; simp only [Act.put, List.setIfInBounds_toArray, List.set_cons_zero, List.set_cons_succ]) | (refine wpTree.take (v := .agg (vl ?_).toArray) (yieldsIf_load_mid rfl 33 _ rfl _ _ rfl (vl _) _ ?_ Try.underlying33 rfl (vinfoL _)) ?_; rotate_left; (focus (intro _ hS; (try dsimp only at hS); go_split_ands; (first | assumption | exact Blk.range (by assumption)))); simp only [Act.put, List.setIfInBounds_toArray, List.set_cons_zero, List.set_cons_succ]) | (refine wpTree.take (v := ?_) (Or.inl ⟨by rfl, ?_⟩) ?_; rotate_left; (focus (intro _ hS; (try dsimp only at hS); go_split_ands; (try subst hS); go_simp; (try (with_reducible rfl)); done)); simp only [Act.put, List.setIfInBounds_toArray, List.set_cons_zero, List.set_cons_succ])))
      refine wpTree.one (fun K hK => ?_)
      go_simp
      go_at_call 26
      refine (wnum_any B g 2 bs _ (show Wtr w1.drew B g bs from HW0.out) (by decide) (by have := HL.out; omega)).mono ?_
      rintro e W2 ⟨rfl, hw, hr⟩
      have HW2 := Lib.hid hw
      have HR2 := Lib.hid ((show Wrote B g W w1.drew from ⟨HR0.out.1.drew, HR0.out.2.1, HR0.out.2.2⟩).trans hr)
      have HB2 := Lib.hid (HB0.out.drew.wrote (by decide) (show Wtr w1.drew B g bs from HW0.out) hr HG.out)
      obtain ⟨-, rv2, -, -, -, q22⟩ := sd_all HB2.out
      refine hK.out _ _ ⟨q22, rv2⟩ (fun _ => ?_)
      clear hK K hw hr rv2 q22 hHeld
      (try simp only [Act.put, List.setIfInBounds_toArray, List.set_cons_zero, List.set_cons_succ])
      refine wpTree.one (fun K hK => ?_)
      go_simp
      go_at_call 26
      refine (wnum_any B g x.s.t (bs ++ enc 2) _ HW2.out HX.out.1 (by have := HL.out; have := enc_small (n := 2) (by decide); simp only [List.length_append]; omega)).mono ?_
      rintro e W3 ⟨rfl, hw, hr⟩
      have HW3 := Lib.hid hw
      have HR3 := Lib.hid (HR2.out.trans hr)
      have HB3 := Lib.hid (HB2.out.wrote (by decide) HW2.out hr HG.out)
      obtain ⟨-, rv2, -, -, -, q22⟩ := sd_all HB3.out
      refine hK.out _ _ ⟨q22, rv2⟩ (fun _ => ?_)
      clear hK K hw hr rv2 q22
      (try simp only [Act.put, List.setIfInBounds_toArray, List.set_cons_zero, List.set_cons_succ])
      refine wpTree.one (fun K hK => ?_)
      go_simp
      go_at_call 27
      refine (wvector_any B g x.s.f (bs ++ enc 2 ++ enc x.s.t) _ HW3.out HX.out.2 (by have := HL.out; have := enc_small (n := 2) (by decide); have := enc_small HX.out.1; simp only [List.length_append]; omega)).mono ?_
      rintro e W4 ⟨rfl, hw, hr⟩
      have HW4 := Lib.hid hw
      have HR4 := Lib.hid (HR3.out.trans hr)
      have HB4 := Lib.hid (HB3.out.wrote (by decide) HW3.out hr HG.out)
      obtain ⟨-, rv2, -, -, -, q22⟩ := sd_all HB4.out
      refine hK.out _ _ ⟨q22, rv2⟩ (fun _ => ?_)
      clear hK K hw hr rv2 q22
      (try simp only [Act.put, List.setIfInBounds_toArray, List.set_cons_zero, List.set_cons_succ])
      refine wpTree.done ?_
      go_wp2_with fail
      exact ⟨rfl, .tuple #[], by simp [results, Try.results28, go_sem], rfl, by simpa only [if_true, List.append_assoc] using HW4.out, HR4.out⟩
end Go.Proofs.Ytbnapbjmffajfaa

/-
tree: reach's closures.
-/
import Derived.Test.YtohnhokddbeheaaTr8
import Derived.Laws.EntriesVeiled
namespace Go.Proofs.Ytohnhokddbeheaa
open Go.RowKit
set_option linter.unusedSimpArgs false
set_option linter.unusedVariables false
namespace Tr
section
variable {W w : World} {gc gj gl : Nat} {c : Nat → Bool} {v : Value} {x : Nat} {T : List Nat}
set_option maxRecDepth 20000 in
set_option maxHeartbeats 4000000 in
theorem reach1_any {g : FuncId} {cb : Array Value} {b : Bool} (h : RM W w gc gj gl (.func (.func g) #[] cb) c v (x :: T)) (n : Nat) (hn : n ≤ 12) (eg : ∀ args w, (callFunc g args).run Try.prog w = .ok (.enter g args) w)
    (hf : ∀ w', Below w.heap.size w w' → Calls Try.prog g (#[.int .i64 (x : Nat), .int .i64 (n : Nat)] ++ cb) w' fun e w'' => e = .returned (.bool b) ∧ Below w'.heap.size w' w'') :
    Calls Try.prog 72 #[.int .i64 (n : Nat), .pointer (some ⟨gc, 0, none⟩), .pointer (some ⟨gj, 0, none⟩), .pointer (some ⟨gl, 0, none⟩)] w fun e w' => e = .returned (.bool (!c n && b)) ∧ Below w.heap.size w w' := by
  obtain ⟨q, qo, cp, ev, hq, cx⟩ := h.row.at_ (i := 0) (n := x) rfl
  subst ev
  have c1 : w.cell? ⟨gc, n, none⟩ = some (.bool (c n)) := by rw [h.bc.cell, List.getElem?_toArray]; exact cl_get c (by omega)
  have c2 : w.cell? ⟨gj, 0, none⟩ = some (.func (.func g) #[] cb) := h.bj.cell 0
  obtain ⟨len, hlen⟩ : ∃ len, len = (x :: T).length := ⟨_, rfl⟩
  have c3 : w.cell? ⟨gl, 0, none⟩ = some (.slice (some ⟨q, qo, none⟩) len cp) := by rw [hlen]; exact h.bl.cell 0
  have n1 : 0 < len := by rw [hlen]; simp
  have n2 : (0 : Int) < ((len : Nat) : Int) := by omega
  have k1 : ¬ ((n : Nat) : Int) < 0 := by omega
  have k2 : ((n : Nat) : Int) < 13 := by omega
  have k3 : n < 13 := by omega
  have HS := Lib.hid (show w.cell? ⟨gc, n, none⟩ = some (.bool (c n)) ∧ w.cell? ⟨gj, 0, none⟩ = some (.func (.func g) #[] cb) ∧ w.cell? ⟨gl, 0, none⟩ = some (.slice (some ⟨q, qo, none⟩) len cp) ∧ w.cell? ⟨q, qo, none⟩ = some (.int .i64 (x : Nat)) from ⟨c1, c2, c3, cx⟩)
  have HF := Lib.hid hf
  clear h hlen c1 c2 c3 cx hf hn
  obtain ⟨cn, hcn⟩ : ∃ cn, cn = c n := ⟨_, rfl⟩
  rw [← hcn] at HS ⊢
  clear hcn
  go_enter Try.func72, Try.ntmps72
  go_upto_region 1 with fail
  have hcc := HS.out
  cases cn with
  | true =>
    refine wp_region_tree (S := (fun w' => w'.cell? ⟨gc, n, none⟩ = some (.bool true) ∧ w'.cell? ⟨gj, 0, none⟩ = some (.func (.func g) #[] cb) ∧ w'.cell? ⟨gl, 0, none⟩ = some (.slice (some ⟨q, qo, none⟩) len cp) ∧ w'.cell? ⟨q, qo, none⟩ = some (.int .i64 (x : Nat)))) (.take 0 (.take 1 (.take 2 (.take 3 (.take 4 (.take 5 (.take 6 (.take 7 (.take 8 (.take 9 (.one 10 (.take 11 (.take 12 .nil))))))))))))) 9999 (by kernel_rfl) (by kernel_rfl) (by kernel_rfl) (by kernel_rfl) (by kernel_rfl) (fun _ _ d _ _ h => by cases d <;> exact h) hcc (fun hHeld => ?_); simp only [Tree.map, List.getElem?_toArray, List.getElem?_cons_zero, List.getElem?_cons_succ]
    (repeat (first | (refine wpTree.take (v := undef) (Or.inr ⟨by rfl, rfl⟩) ?_; simp only [Act.put, List.setIfInBounds_toArray, List.set_cons_zero, List.set_cons_succ]) | (refine wpTree.take (v := ?_) (Or.inl ⟨by rfl, ?_⟩) ?_; rotate_left; (focus (intro _ hS; (try dsimp only at hS); go_split_ands; (try subst hS); go_simp; (try (with_reducible rfl)); done)); simp only [Act.put, List.setIfInBounds_toArray, List.set_cons_zero, List.set_cons_succ])))
    clear hcc
    refine wpTree.one (fun K hK => ?_)
    show K _ _
    refine hK.out _ _ hHeld (fun _ => ?_)
    clear hK K hHeld
    (try simp only [Act.put, List.setIfInBounds_toArray, List.set_cons_zero, List.set_cons_succ])
    (repeat (first | (refine wpTree.take (v := undef) (Or.inr ⟨by rfl, rfl⟩) ?_; simp only [Act.put, List.setIfInBounds_toArray, List.set_cons_zero, List.set_cons_succ]) | (refine wpTree.take (v := ?_) (Or.inl ⟨by rfl, ?_⟩) ?_; rotate_left; (focus (intro _ hS; (try dsimp only at hS); go_split_ands; (try subst hS); go_simp; (try (with_reducible rfl)); done)); simp only [Act.put, List.setIfInBounds_toArray, List.set_cons_zero, List.set_cons_succ])))
    refine wpTree.done ?_
    go_wp2_with fail
    go_ret
    exact ⟨rfl, (Below.refl _ _).drew⟩
  | false =>
    refine wp_region_tree (S := (fun w' => w'.cell? ⟨gc, n, none⟩ = some (.bool false) ∧ w'.cell? ⟨gj, 0, none⟩ = some (.func (.func g) #[] cb) ∧ w'.cell? ⟨gl, 0, none⟩ = some (.slice (some ⟨q, qo, none⟩) len cp) ∧ w'.cell? ⟨q, qo, none⟩ = some (.int .i64 (x : Nat)))) (.take 0 (.take 1 (.take 2 (.take 3 (.take 4 (.take 5 (.take 6 (.take 7 (.take 8 (.take 9 (.one 10 (.take 11 (.take 12 .nil))))))))))))) 9999 (by kernel_rfl) (by kernel_rfl) (by kernel_rfl) (by kernel_rfl) (by kernel_rfl) (fun _ _ d _ _ h => by cases d <;> exact h) hcc (fun hHeld => ?_); simp only [Tree.map, List.getElem?_toArray, List.getElem?_cons_zero, List.getElem?_cons_succ]
    (repeat (first | (refine wpTree.take (v := undef) (Or.inr ⟨by rfl, rfl⟩) ?_; simp only [Act.put, List.setIfInBounds_toArray, List.set_cons_zero, List.set_cons_succ]) | (refine wpTree.take (v := ?_) (Or.inl ⟨by rfl, ?_⟩) ?_; rotate_left; (focus (intro _ hS; (try dsimp only at hS); go_split_ands; (try subst hS); go_simp; (try (with_reducible rfl)); done)); simp only [Act.put, List.setIfInBounds_toArray, List.set_cons_zero, List.set_cons_succ])))
    clear hcc
    have hc := HF.out w.drew (Below.refl w.heap.size w).drew
    refine wpTree.one (fun K hK => ?_)
    (try rw [if_pos (by rfl)])
    go_simp
    refine hc.mono ?_
    rintro e w2 ⟨rfl, hb⟩
    have hb2 : Below w.heap.size w w2 := (Below.refl w.heap.size w).drew.trans hb
    have HB2 := Lib.hid hb2
    refine hK.out _ _ ⟨cell_next hb2 HS.out.1, cell_next hb2 HS.out.2.1, cell_next hb2 HS.out.2.2.1, cell_next hb2 HS.out.2.2.2⟩ (fun _ => ?_)
    clear hK K hHeld hb hb2 hc
    (try simp only [Act.put, List.setIfInBounds_toArray, List.set_cons_zero, List.set_cons_succ])
    (repeat (first | (refine wpTree.take (v := undef) (Or.inr ⟨by rfl, rfl⟩) ?_; simp only [Act.put, List.setIfInBounds_toArray, List.set_cons_zero, List.set_cons_succ]) | (refine wpTree.take (v := ?_) (Or.inl ⟨by rfl, ?_⟩) ?_; rotate_left; (focus (intro _ hS; (try dsimp only at hS); go_split_ands; (try subst hS); go_simp; (try (with_reducible rfl)); done)); simp only [Act.put, List.setIfInBounds_toArray, List.set_cons_zero, List.set_cons_succ])))
    refine wpTree.done ?_
    go_wp2_with fail
    go_ret
    exact ⟨rfl, HB2.out⟩
theorem reach2_any (hc : Blk w gc 82 (cl c).toArray) (n : Nat) (hn : n ≤ 12) :
    Calls Try.prog 73 #[.int .i64 (n : Nat), .pointer (some ⟨gc, 0, none⟩)] w fun e w' => e = .returned (.bool (c n)) ∧ Below w.heap.size w w' := by
  have c1 : w.cell? ⟨gc, n, none⟩ = some (.bool (c n)) := by rw [hc.cell, List.getElem?_toArray]; exact cl_get c (by omega)
  have k1 : ¬ ((n : Nat) : Int) < 0 := by omega
  have k2 : ((n : Nat) : Int) < 13 := by omega
  have k3 : n < 13 := by omega
  clear hc hn
  go_enter Try.func73, Try.ntmps73
  go_wp2_with fail
  go_ret
  exact ⟨rfl, Below.refl _ _⟩
end
end Tr
end Go.Proofs.Ytohnhokddbeheaa

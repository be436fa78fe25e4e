/-
link: an acknowledgement comes.
-/
import Derived.Test.YthiclefiliedjaaLk31
namespace Go.Proofs.Ythiclefiliedjaa
open Go.RowKit
set_option linter.unusedSimpArgs false
set_option linter.unusedVariables false
namespace Lk
theorem th_box (w : World) (x : Th) : Blk (w.alloc (.cells x.cells.toArray 60)) w.heap.size 60 x.cells.toArray := Blk.new _ _ _
set_option maxRecDepth 20000 in
set_option maxHeartbeats 4000000 in
theorem come_ack {W w : World} {g d1 d2 : Nat} {m : Mx} {net : List Th} {tk : List (List Nat)} {vn vs vt : Value} (h : Mt W w g d1 d2 m.l1 m.l2 net m.sent tk vn vs vt) (ho : m.Ok net) (q : Nat) (bs : List Nat) (hq : q ≤ m.t) :
    Calls Try.prog 22 #[.pointer (some ⟨g, 0, none⟩), .agg (Th.cells ⟨true, q, bs⟩).toArray] w fun e w' => e = .returned (.bool true) ∧ Mt W w' g d1 d2 (Mx.l1 ⟨m.sent, max m.a q, m.t⟩) m.l2 net m.sent tk vn vs vt := by
  obtain ⟨w1, hw1⟩ : ∃ w1, w1 = w.alloc (.cells (Th.cells ⟨true, q, bs⟩).toArray 60) := ⟨_, rfl⟩
  have hb1 : Below w.heap.size w w1 := by rw [hw1]; exact (Below.refl _ _).alloc (Nat.le_refl _) _
  have hx : Blk w1 w.heap.size 60 (Th.cells ⟨true, q, bs⟩).toArray := by rw [hw1]; exact Blk.new _ _ _
  have hm1 := h.next hb1
  have x0 : w1.cell? ⟨w.heap.size, 0, none⟩ = some (.bool true) := hx.cell 0
  have x1 : w1.cell? ⟨w.heap.size, 1, none⟩ = some (.int .u64 (q : Nat)) := hx.cell 1
  have c0 : w1.cell? ⟨g, 0, none⟩ = some (.pointer (some ⟨d1, 0, none⟩)) := hm1.blk.cell 0
  have hA := once_ack ho hq
  have HK := Lib.hid ((hm1.next (Below.refl _ _).drew).ack q)
  rw [hA.1, hA.2.1] at HK
  have HW := Lib.hid hw1
  clear h ho hq hb1 hx hm1 hA hw1
  obtain ⟨ar, har⟩ : ∃ ar, ar = ackR m.l1 q := ⟨_, rfl⟩
  rw [← har] at HK
  clear har
  go_enter Try.func22, Try.ntmps22
  go_upto_region 1 with fail
  rw [show w.alloc (.cells (Th.cells ⟨true, q, bs⟩).toArray 60) = w1 from HW.out.symm]
  go_upto_region 2 with fail
  refine wp_region_tree (S := (fun w' => w'.cell? ⟨g, 0, none⟩ = some (.pointer (some ⟨d1, 0, none⟩)))) (.take 0 (.take 1 (.take 2 (.take 3 (.take 4 (.one 5 (.one 6 (.take 7 (.take 8 (.take 9 (.take 10 (.take 11 .nil)))))))))))) 9999 (by kernel_rfl) (by kernel_rfl) (by kernel_rfl) (by kernel_rfl) (by kernel_rfl) (fun _ _ d _ _ h => by cases d <;> exact h) c0 (fun hHeld => ?_); simp only [Tree.map, List.getElem?_toArray, List.getElem?_cons_zero, List.getElem?_cons_succ]
  (repeat (first | (refine wpTree.take (v := undef) (Or.inr ⟨by rfl, rfl⟩) ?_; simp only [Act.put, List.setIfInBounds_toArray, List.set_cons_zero, List.set_cons_succ]) | (refine wpTree.take (v := ?_) (Or.inl ⟨by rfl, ?_⟩) ?_; rotate_left; (focus (intro _ hS; (try dsimp only at hS); go_split_ands; (try subst hS); go_simp; (try (with_reducible rfl)); done)); simp only [Act.put, List.setIfInBounds_toArray, List.set_cons_zero, List.set_cons_succ])))
  refine wpTree.one (fun K hK => ?_)
  go_simp
  refine hK.out _ _ hHeld (fun _ => ?_)
  clear hK K hHeld
  (try simp only [Act.put, List.setIfInBounds_toArray, List.set_cons_zero, List.set_cons_succ])
  refine wpTree.one (fun K hK => ?_)
  go_simp
  go_at_call 12
  refine HK.out.mono ?_
  rintro e w2 ⟨rfl, hM⟩
  have H2 := Lib.hid hM
  refine hK.out _ _ (hM.blk.cell 0) (fun _ => ?_)
  clear hK K hM x0 x1 c0 HK
  (try simp only [Act.put, List.setIfInBounds_toArray, List.set_cons_zero, List.set_cons_succ])
  (repeat (first | (refine wpTree.take (v := undef) (Or.inr ⟨by rfl, rfl⟩) ?_; simp only [Act.put, List.setIfInBounds_toArray, List.set_cons_zero, List.set_cons_succ]) | (refine wpTree.take (v := ?_) (Or.inl ⟨by rfl, ?_⟩) ?_; rotate_left; (focus (intro _ hS; (try dsimp only at hS); go_split_ands; (try subst hS); go_simp; (try (with_reducible rfl)); done)); simp only [Act.put, List.setIfInBounds_toArray, List.set_cons_zero, List.set_cons_succ])))
  refine wpTree.done ?_
  go_wp2_with fail
  go_ret
  exact ⟨rfl, H2.out⟩
end Lk
end Go.Proofs.Ythiclefiliedjaa

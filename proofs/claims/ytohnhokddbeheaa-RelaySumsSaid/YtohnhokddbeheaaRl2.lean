/-
relay: Node, next, Count; a tree's edges cloned; New.
-/
import Derived.Test.YtohnhokddbeheaaRl
import Derived.Test.YtohnhokddbeheaaRLab
import Derived.Test.YtohnhokddbeheaaNds
import Derived.Test.YtohnhokddbeheaaAppendStep
namespace Go.Proofs.Ytohnhokddbeheaa
open Go.RowKit
set_option linter.unusedSimpArgs false
set_option linter.unusedVariables false
namespace Rl
open Tr
section
variable (W : World) {B d : Nat} {x : R}
theorem node_any (h : RP W B d x) : Calls Try.prog 21 #[.pointer (some ⟨d, 0, none⟩)] W fun e W' => e = .returned (.int .i64 x.nd) ∧ W = W' := by
  have c0 := h.c0
  clear h
  go_enter Try.func21, Try.ntmps21
  go_wp2_with fail
  go_ret
  exact ⟨rfl, rfl⟩
set_option maxRecDepth 20000 in
theorem rnext_any (h : RP W B d x) (hl : x.t.es.length ≤ 1000000) : Calls Try.prog 38 #[.pointer (some ⟨d, 0, none⟩)] W fun e W' => ∃ v, e = .returned v ∧ Nds W' W.heap.size v (nextL x.t x.nd) ∧ Below W.heap.size W W' := by
  have HNX := Lib.hid (Tr.next_any W.drew x.t (h.rows.next (Below.refl _ _).drew) hl x.nd)
  have hcc : W.rangeAt d 1 x.t.cells ∧ W.cell? ⟨d, 0, none⟩ = some (.int .i64 x.nd) := ⟨h.tr, h.c0⟩
  have HCC := Lib.hid hcc
  clear h hl
  go_enter Try.func38, Try.ntmps38
  go_upto_region 3 with fail
  refine wp_region_tree (S := (fun w' => w'.rangeAt d 1 x.t.cells ∧ w'.cell? ⟨d, 0, none⟩ = some (.int .i64 x.nd))) (.take 0 (.take 1 (.take 2 (.take 3 (.take 4 (.take 5 (.take 6 (.take 7 (.one 8 (.take 9 .nil)))))))))) 9999 (by kernel_rfl) (by kernel_rfl) (by kernel_rfl) (by kernel_rfl) (by kernel_rfl) (fun _ _ d _ _ h => by cases d <;> exact h) hcc (fun hHeld => ?_); simp only [Tree.map, List.getElem?_toArray, List.getElem?_cons_zero, List.getElem?_cons_succ]
  (repeat (first | (refine wpTree.take (v := undef) (Or.inr ⟨by rfl, rfl⟩) ?_; simp only [Act.put, List.setIfInBounds_toArray, List.set_cons_zero, List.set_cons_succ]) | (refine wpTree.take (v := .agg x.t.cells.toArray) (yieldsIf_load_mid rfl 25 _ rfl _ _ rfl x.t.cells _ (fun _ hS => hS.1) Try.underlying25 rfl (tvinfo x.t)) ?_; simp only [Act.put, List.setIfInBounds_toArray, List.set_cons_zero, List.set_cons_succ]) | (refine wpTree.take (v := ?_) (Or.inl ⟨by rfl, ?_⟩) ?_; rotate_left; (focus (intro _ hS; (try dsimp only at hS); go_split_ands; (try subst hS); go_simp; (try (with_reducible rfl)); done)); simp only [Act.put, List.setIfInBounds_toArray, List.set_cons_zero, List.set_cons_succ])))
  clear hcc
  refine wpTree.one (fun K hK => ?_)
  go_simp
  go_at_call 22
  refine HNX.out.mono ?_
  rintro e w3 ⟨v, rfl, hN, hb⟩
  have hb3 : Below W.heap.size W w3 := (Below.refl W.heap.size W).drew.trans hb
  have HB3 := Lib.hid hb3
  have HN := Lib.hid hN
  refine hK.out _ _ ⟨rng_next HCC.out.1 hb3, (hb3.cell (p := ⟨d, 0, none⟩) (World.block_lt_of_cell? _ _ HCC.out.2)).trans HCC.out.2⟩ (fun _ => ?_)
  clear hK K hHeld hb3 hN hb HNX HCC
  (try simp only [Act.put, List.setIfInBounds_toArray, List.set_cons_zero, List.set_cons_succ])
  (repeat (first | (refine wpTree.take (v := undef) (Or.inr ⟨by rfl, rfl⟩) ?_; simp only [Act.put, List.setIfInBounds_toArray, List.set_cons_zero, List.set_cons_succ]) | (refine wpTree.take (v := ?_) (Or.inl ⟨by rfl, ?_⟩) ?_; rotate_left; (focus (intro _ hS; (try dsimp only at hS); go_split_ands; (try subst hS); go_simp; (try (with_reducible rfl)); done)); simp only [Act.put, List.setIfInBounds_toArray, List.set_cons_zero, List.set_cons_succ])))
  refine wpTree.done ?_
  go_wp2_with fail
  go_ret
  exact ⟨_, rfl, HN.out, HB3.out⟩
set_option maxRecDepth 20000 in
theorem count_any (h : RP W B d x) {k : Nat} (hk : k < 12) : Calls Try.prog 19 #[.pointer (some ⟨d, 0, none⟩), .int .i64 ((k : Int) + 1)] W fun e W' => e = .returned (.tuple #[.int .u64 (x.c (k * 2) : Nat), .int .u64 (x.c (k * 2 + 1) : Nat)]) ∧ Below W.heap.size W W' := by
  have e1 : wrap64 ((k : Int) + 1 - 1) = (k : Nat) := by unfold wrap64; omega
  have e2 : (k : Int) < 12 := by omega
  have e3 : ¬ (k : Int) < 0 := by omega
  have e4 : ¬ (k : Int) + 1 < 1 := by omega
  have e5 : ¬ (12 : Int) < (k : Int) + 1 := by omega
  have hr := h.cu hk
  have hb := (Below.refl W.heap.size W).alloc (Nat.le_refl _) (.cells #[.int .u64 (x.c (k * 2) : Nat), .int .u64 (x.c (k * 2 + 1) : Nat)] 65)
  have HB := Lib.hid hb
  obtain ⟨ca, hca⟩ : ∃ ca, ca = x.c (k * 2) := ⟨_, rfl⟩
  obtain ⟨we, hwe⟩ : ∃ we, we = x.c (k * 2 + 1) := ⟨_, rfl⟩
  rw [← hca, ← hwe] at hr HB ⊢
  have hx : Blk (W.alloc (.cells #[.int .u64 (ca : Nat), .int .u64 (we : Nat)] 65)) W.heap.size 65 #[.int .u64 (ca : Nat), .int .u64 (we : Nat)] := Blk.new W _ _
  have HX := Lib.hid hx
  have hcc : (W.alloc (.cells #[.int .u64 (ca : Nat), .int .u64 (we : Nat)] 65)).cell? ⟨W.heap.size, 0, none⟩ = some (.int .u64 (ca : Nat)) ∧ (W.alloc (.cells #[.int .u64 (ca : Nat), .int .u64 (we : Nat)] 65)).cell? ⟨W.heap.size, 1, none⟩ = some (.int .u64 (we : Nat)) := ⟨hx.cell 0, hx.cell 1⟩
  clear h hk hca hwe hb
  go_enter Try.func19, Try.ntmps19
  go_upto_region 4 with (first | (refine load_midg rfl 65 _ rfl _ _ rfl [.int .u64 (ca : Nat), .int .u64 (we : Nat)] _ hr Try.underlying65 rfl (ciinfo _ _) ?_; (try simp only [Act.put, List.setIfInBounds_toArray, List.set_cons_zero, List.set_cons_succ])) | (refine wpList_store_blk rfl 65 _ _ rfl W.heap.size 65 #[.int .u64 0, .int .u64 0] #[.int .u64 (ca : Nat), .int .u64 (we : Nat)] rfl rfl (Blk.new W _ _) (by kernel_rfl) rfl (by simp [Value.oneCell']) ?_; rw [alloc_setRow]))
  obtain ⟨w1, hw1⟩ : ∃ w1, w1 = W.alloc (.cells #[.int .u64 (ca : Nat), .int .u64 (we : Nat)] 65) := ⟨_, rfl⟩
  rw [← hw1] at hcc HB ⊢
  clear hw1 hx HX hr e1 e2 e3 e4 e5
  obtain ⟨q, hq⟩ : ∃ q, q = W.heap.size := ⟨_, rfl⟩
  rw [← hq] at hcc
  (try rw [← hq])
  rw [← hq] at HB
  have HQ := Lib.hid hq
  clear hq
  refine wp_region_tree (S := (fun w' => w'.cell? ⟨q, 0, none⟩ = some (.int .u64 (ca : Nat)) ∧ w'.cell? ⟨q, 1, none⟩ = some (.int .u64 (we : Nat)))) (.take 0 (.take 1 (.take 2 (.take 3 (.take 4 (.take 5 .nil)))))) 9999 (by kernel_rfl) (by kernel_rfl) (by kernel_rfl) (by kernel_rfl) (by kernel_rfl) (fun _ _ d _ _ h => by cases d <;> exact h) hcc (fun hHeld => ?_); simp only [Tree.map, List.getElem?_toArray, List.getElem?_cons_zero, List.getElem?_cons_succ]
  (repeat (first | (refine wpTree.take (v := undef) (Or.inr ⟨by rfl, rfl⟩) ?_; simp only [Act.put, List.setIfInBounds_toArray, List.set_cons_zero, List.set_cons_succ]) | (refine wpTree.take (v := ?_) (Or.inl ⟨by rfl, ?_⟩) ?_; rotate_left; (focus (intro _ hS; (try dsimp only at hS); go_split_ands; (try subst hS); go_simp; (try (with_reducible rfl)); done)); simp only [Act.put, List.setIfInBounds_toArray, List.set_cons_zero, List.set_cons_succ])))
  refine wpTree.done ?_
  go_wp2_with fail
  go_ret2
  exact ⟨rfl, by have h1 := HB.out.drew; rw [HQ.out] at h1; exact h1⟩
end
end Rl
end Go.Proofs.Ytohnhokddbeheaa

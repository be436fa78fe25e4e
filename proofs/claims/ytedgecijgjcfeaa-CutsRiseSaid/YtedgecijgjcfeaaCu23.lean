/-
cuts: Own.
-/
import Derived.Test.YtedgecijgjcfeaaCu22
namespace Go.Proofs.Ytedgecijgjcfeaa
open Go.RowKit
set_option linter.unusedSimpArgs false
set_option linter.unusedVariables false
set_option maxRecDepth 20000 in
set_option maxHeartbeats 4000000 in
theorem own_any {W : World} {B t : Nat} {F : Nat → Prop} {own other : Int} {v : Value} {cs : List Ct} {a b : Sd} (T : Tb W B t F own other v cs a b) :
    Calls Try.prog 23 #[.pointer (some ⟨t, 0, none⟩)] W fun e W' => e = .returned (.tuple #[.agg a.s.cells.toArray, .bool a.is]) ∧ Below W.heap.size W W' := by
  have HT := Lib.hid T
  have htW : t < W.heap.size := (T.low t T.ft).2
  clear T
  go_enter Try.func23, Try.ntmps23
  go_upto_region 3 with fail
  have hb1 := below_box W 39 #[.bool false, .int .u64 0, .int .u32 0, .int .u32 0, .int .u32 0, .int .u32 0, .int .u32 0, .int .u32 0, .int .u32 0, .int .u32 0, .int .u32 0, .int .u32 0, .int .u32 0, .int .u32 0]
  have bk := Blk.new W 39 #[.bool false, .int .u64 0, .int .u32 0, .int .u32 0, .int .u32 0, .int .u32 0, .int .u32 0, .int .u32 0, .int .u32 0, .int .u32 0, .int .u32 0, .int .u32 0, .int .u32 0, .int .u32 0]
  obtain ⟨w1, hw1⟩ : ∃ w1, w1 = W.alloc (.cells #[.bool false, .int .u64 0, .int .u32 0, .int .u32 0, .int .u32 0, .int .u32 0, .int .u32 0, .int .u32 0, .int .u32 0, .int .u32 0, .int .u32 0, .int .u32 0, .int .u32 0, .int .u32 0] 39) := ⟨_, rfl⟩
  rw [← hw1] at hb1 bk ⊢
  have T1 := HT.out.next hb1
  have r4 := T1.r4
  have c3 := T1.c3
  have hz : W.heap.size < w1.heap.size := by rw [hw1]; simp
  have HB1 := Lib.hid hb1
  have HBK := Lib.hid bk
  obtain ⟨g, hg⟩ : ∃ g, g = W.heap.size := ⟨_, rfl⟩
  have HG := Lib.hid hg
  have hgt : g ≠ t := by omega
  rw [← hg] at HBK hz ⊢
  clear hw1 hb1 T1 hg htW bk
  have hth : w1.there g 0 14 := HBK.out.there (by simp)
  refine wp_region_tree (S := (fun w' => w'.rangeAt t 4 a.s.cells ∧ w'.cell? ⟨t, 3, none⟩ = some (.bool a.is))) (.take 0 (.take 1 (.take 2 (.take 3 (.take 4 (.take 5 (.take 6 (.take 7 (.take 8 (.take 9 (.take 10 (.take 11 (.one 12 (.take 13 .nil)))))))))))))) 9999 (by kernel_rfl) (by kernel_rfl) (by kernel_rfl) (by kernel_rfl) (by kernel_rfl) (fun _ _ d _ _ h => by cases d <;> exact h) ⟨r4, c3⟩ (fun hHeld => ?_); simp only [Tree.map, List.getElem?_toArray, List.getElem?_cons_zero, List.getElem?_cons_succ]
  (repeat (first | (refine wpTree.take (v := undef) (Or.inr ⟨by rfl, rfl⟩) ?_; simp only [Act.put, List.setIfInBounds_toArray, List.set_cons_zero, List.set_cons_succ]) | (refine wpTree.take (v := .agg a.s.cells.toArray) (yieldsIf_load_mid rfl 39 _ rfl _ _ rfl a.s.cells _ (fun _ hS => hS.1) Try.underlying39 rfl (stinfo _)) ?_; simp only [Act.put, List.setIfInBounds_toArray, List.set_cons_zero, List.set_cons_succ]) | (refine wpTree.take (v := ?_) (Or.inl ⟨by rfl, ?_⟩) ?_; rotate_left; (focus (intro _ hS; (try dsimp only at hS); go_split_ands; (try subst hS); go_simp; (try (with_reducible rfl)); done)); simp only [Act.put, List.setIfInBounds_toArray, List.set_cons_zero, List.set_cons_succ])))
  refine wpTree.one (fun K hK => ?_)
  rw [if_pos (by rfl)]
  refine wp_store_mid 39 _ _ rfl g 0 a.s.cells.toArray rfl rfl (by rw [List.size_toArray, st_len]; exact hth) (stinfoA _) (st_one _) ?_
  rw [show a.s.cells.toArray.toList = a.s.cells from rfl]
  have h8o : ∀ k, k ≠ g → (w1.drew.setCells g 0 a.s.cells).heap[k]? = w1.heap[k]? := fun k hk => setCells_other g _ _ w1.drew k hk
  refine hK.out _ _ ⟨fun j u hj => (World.cell?_of_block (h8o t (Ne.symm hgt))).trans (hHeld.1 j u hj), (World.cell?_of_block (h8o t (Ne.symm hgt))).trans hHeld.2⟩ (fun _ => ?_)
  clear hK K
  (try simp only [Act.put, List.setIfInBounds_toArray, List.set_cons_zero, List.set_cons_succ])
  (repeat (first | (refine wpTree.take (v := undef) (Or.inr ⟨by rfl, rfl⟩) ?_; simp only [Act.put, List.setIfInBounds_toArray, List.set_cons_zero, List.set_cons_succ]) | (refine wpTree.take (v := ?_) (Or.inl ⟨by rfl, ?_⟩) ?_; rotate_left; (focus (intro _ hS; (try dsimp only at hS); go_split_ands; (try subst hS); go_simp; (try (with_reducible rfl)); done)); simp only [Act.put, List.setIfInBounds_toArray, List.set_cons_zero, List.set_cons_succ])))
  refine wpTree.done ?_
  have b2 : Blk (w1.drew.setCells g 0 a.s.cells) g 39 a.s.cells.toArray := by
    have h := Blk.setMid a.s.cells [] (#[.bool false, .int .u64 0, .int .u32 0, .int .u32 0, .int .u32 0, .int .u32 0, .int .u32 0, .int .u32 0, .int .u32 0, .int .u32 0, .int .u32 0, .int .u32 0, .int .u32 0, .int .u32 0] : Array Value).toList [] w1.drew HBK.out (by rw [st_len]; rfl)
    simpa using h
  have hb2 : Below g W (w1.drew.setCells g 0 a.s.cells) := setCells_below (Nat.le_refl _) _ _ w1.drew (by rw [HG.out]; exact HB1.out.drew)
  have HB2 := Lib.hid hb2
  have HBK2 := Lib.hid b2
  clear b2 hb2 h8o hHeld r4 c3 hth
  go_wp2_with fail
  refine bodyPost_row_tmp a.s.cells.toArray (.bool a.is) rfl rfl rfl rfl Try.underlying39 rfl (stinfoA _) HBK2.out ?_
  exact ⟨rfl, by rw [← HG.out]; exact HB2.out⟩
end Go.Proofs.Ytedgecijgjcfeaa

/-
tree: Nodes.
-/
import Derived.Test.YtohnhokddbeheaaTr5
namespace Go.Proofs.Ytohnhokddbeheaa
open Go.RowKit
set_option linter.unusedSimpArgs false
set_option linter.unusedVariables false
namespace Tr
theorem rng_next {w w' : World} {g o : Nat} {vs : List Value} (h : w.rangeAt g o vs) (hb : Below w.heap.size w w') : w'.rangeAt g o vs := fun j v hj => (hb.cell (World.block_lt_of_cell? w _ (h j v hj))).trans (h j v hj)
/-- Is this a node of a kind? -/
def nodeB (t : Tv) (kd : Int) (n : Int) : Bool := thereB t.k n && decide (kindV t.k n = kd)
section
variable {w : World} {gb gk : Nat} {t : Tv}
set_option maxRecDepth 20000 in
set_option maxHeartbeats 4000000 in
theorem nodes1_any (hr : w.rangeAt gb 0 t.cells) (kd : Int) (ck : w.cell? ⟨gk, 0, none⟩ = some (.int .i64 kd)) (n : Int) :
    Calls Try.prog 91 #[.int .i64 n, .pointer (some ⟨gb, 0, none⟩), .pointer (some ⟨gk, 0, none⟩)] w fun e w' => e = .returned (.bool (nodeB t kd n)) ∧ Below w.heap.size w w' := by
  have HS := Lib.hid (show w.rangeAt gb 0 t.cells ∧ w.cell? ⟨gk, 0, none⟩ = some (.int .i64 kd) from ⟨hr, ck⟩)
  clear hr ck
  go_enter Try.func91, Try.ntmps91
  go_upto_region 1 with fail
  have hcc := HS.out
  refine wp_region_tree (S := (fun w' => w'.rangeAt gb 0 t.cells ∧ w'.cell? ⟨gk, 0, none⟩ = some (.int .i64 kd))) (.take 0 (.take 1 (.one 2 (.take 3 (.take 4 (.take 5 (.take 7 (.one 6 (.take 8 (.take 9 (.take 10 .nil))))))))))) 9999 (by kernel_rfl) (by kernel_rfl) (by kernel_rfl) (by kernel_rfl) (by kernel_rfl) (fun _ _ d _ _ h => by cases d <;> exact h) hcc (fun hHeld => ?_); simp only [Tree.map, List.getElem?_toArray, List.getElem?_cons_zero, List.getElem?_cons_succ]
  (repeat (first | (refine wpTree.take (v := undef) (Or.inr ⟨by rfl, rfl⟩) ?_; simp only [Act.put, List.setIfInBounds_toArray, List.set_cons_zero, List.set_cons_succ]) | (refine wpTree.take (v := .agg t.cells.toArray) (yieldsIf_load_mid rfl 25 _ rfl _ _ rfl t.cells _ (fun _ hS => hS.1) Try.underlying25 rfl (tvinfo t)) ?_; simp only [Act.put, List.setIfInBounds_toArray, List.set_cons_zero, List.set_cons_succ]) | (refine wpTree.take (v := ?_) (Or.inl ⟨by rfl, ?_⟩) ?_; rotate_left; (focus (intro _ hS; (try dsimp only at hS); go_split_ands; (try subst hS); go_simp; (try (with_reducible rfl)); done)); simp only [Act.put, List.setIfInBounds_toArray, List.set_cons_zero, List.set_cons_succ])))
  clear hcc
  have HA := Lib.hid (there_any w.drew t n)
  cases hth : thereB t.k n with
  | false =>
    rw [hth] at HA
    have HV := Lib.hid (show nodeB t kd n = false by unfold nodeB; rw [hth]; rfl)
    clear hth
    refine wpTree.one (fun K hK => ?_)
    go_simp
    go_at_call 52
    refine HA.out.mono ?_
    rintro e w2 ⟨rfl, hb⟩
    have hb2 : Below w.heap.size w w2 := (Below.refl w.heap.size w).drew.trans hb
    have HB2 := Lib.hid hb2
    refine hK.out _ _ ⟨rng_next HS.out.1 hb2, cell_next hb2 HS.out.2⟩ (fun _ => ?_)
    clear hK K hHeld hb hb2 HA
    (try simp only [Act.put, List.setIfInBounds_toArray, List.set_cons_zero, List.set_cons_succ])
    (repeat (first | (refine wpTree.take (v := undef) (Or.inr ⟨by rfl, rfl⟩) ?_; simp only [Act.put, List.setIfInBounds_toArray, List.set_cons_zero, List.set_cons_succ]) | (refine wpTree.take (v := ?_) (Or.inl ⟨by rfl, ?_⟩) ?_; rotate_left; (focus (intro _ hS; (try dsimp only at hS); go_split_ands; (try subst hS); go_simp; (try (with_reducible rfl)); done)); simp only [Act.put, List.setIfInBounds_toArray, List.set_cons_zero, List.set_cons_succ])))
    refine wpTree.one (fun K hK => ?_)
    show K _ _
    refine hK.out _ _ ⟨rng_next HS.out.1 HB2.out, cell_next HB2.out HS.out.2⟩ (fun _ => ?_)
    clear hK K
    (try simp only [Act.put, List.setIfInBounds_toArray, List.set_cons_zero, List.set_cons_succ])
    (repeat (first | (refine wpTree.take (v := undef) (Or.inr ⟨by rfl, rfl⟩) ?_; simp only [Act.put, List.setIfInBounds_toArray, List.set_cons_zero, List.set_cons_succ]) | (refine wpTree.take (v := ?_) (Or.inl ⟨by rfl, ?_⟩) ?_; rotate_left; (focus (intro _ hS; (try dsimp only at hS); go_split_ands; (try subst hS); go_simp; (try (with_reducible rfl)); done)); simp only [Act.put, List.setIfInBounds_toArray, List.set_cons_zero, List.set_cons_succ])))
    refine wpTree.done ?_
    go_wp2_with fail
    go_ret
    exact ⟨by rw [HV.out]; rfl, HB2.out⟩
  | true =>
    rw [hth] at HA
    have HV := Lib.hid (show nodeB t kd n = decide (kindV t.k n = kd) by unfold nodeB; rw [hth]; rfl)
    clear hth
    refine wpTree.one (fun K hK => ?_)
    go_simp
    go_at_call 52
    refine HA.out.mono ?_
    rintro e w2 ⟨rfl, hb⟩
    have hb2 : Below w.heap.size w w2 := (Below.refl w.heap.size w).drew.trans hb
    have HB2 := Lib.hid hb2
    refine hK.out _ _ ⟨rng_next HS.out.1 hb2, cell_next hb2 HS.out.2⟩ (fun _ => ?_)
    clear hK K hHeld hb hb2 HA
    (try simp only [Act.put, List.setIfInBounds_toArray, List.set_cons_zero, List.set_cons_succ])
    (repeat (first | (refine wpTree.take (v := undef) (Or.inr ⟨by rfl, rfl⟩) ?_; simp only [Act.put, List.setIfInBounds_toArray, List.set_cons_zero, List.set_cons_succ]) | (refine wpTree.take (v := .agg t.cells.toArray) (yieldsIf_load_mid rfl 25 _ rfl _ _ rfl t.cells _ (fun _ hS => hS.1) Try.underlying25 rfl (tvinfo t)) ?_; simp only [Act.put, List.setIfInBounds_toArray, List.set_cons_zero, List.set_cons_succ]) | (refine wpTree.take (v := ?_) (Or.inl ⟨by rfl, ?_⟩) ?_; rotate_left; (focus (intro _ hS; (try dsimp only at hS); go_split_ands; (try subst hS); go_simp; (try (with_reducible rfl)); done)); simp only [Act.put, List.setIfInBounds_toArray, List.set_cons_zero, List.set_cons_succ])))
    have HK := Lib.hid (kind_any w2 t n)
    refine wpTree.one (fun K hK => ?_)
    (try rw [if_pos (by rfl)])
    go_simp
    go_at_call 25
    refine HK.out.mono ?_
    rintro e w3 ⟨rfl, hb⟩
    have hb3 : Below w.heap.size w w3 := HB2.out.trans (hb.mono HB2.out.size)
    have HB3 := Lib.hid hb3
    refine hK.out _ _ ⟨rng_next HS.out.1 hb3, cell_next hb3 HS.out.2⟩ (fun _ => ?_)
    clear hK K hb hb3 HK
    (try simp only [Act.put, List.setIfInBounds_toArray, List.set_cons_zero, List.set_cons_succ])
    (repeat (first | (refine wpTree.take (v := undef) (Or.inr ⟨by rfl, rfl⟩) ?_; simp only [Act.put, List.setIfInBounds_toArray, List.set_cons_zero, List.set_cons_succ]) | (refine wpTree.take (v := ?_) (Or.inl ⟨by rfl, ?_⟩) ?_; rotate_left; (focus (intro _ hS; (try dsimp only at hS); go_split_ands; (try subst hS); go_simp; (try (with_reducible rfl)); done)); simp only [Act.put, List.setIfInBounds_toArray, List.set_cons_zero, List.set_cons_succ])))
    refine wpTree.done ?_
    go_wp2_with fail
    go_ret
    exact ⟨by rw [HV.out]; rfl, HB3.out⟩
end
set_option maxRecDepth 20000 in
set_option maxHeartbeats 4000000 in
theorem nodes_any (W : World) (t : Tv) (kd : Int) :
    Calls Try.prog 90 #[.agg t.cells.toArray, .int .i64 kd] W fun e W' => ∃ v, e = .returned v ∧ Nds W' W.heap.size v (thoseL fun i => nodeB t kd (i : Nat)) ∧ Below W.heap.size W W' := by
  have ba := (Below.refl W.heap.size W).alloc (Nat.le_refl _) (.cells t.cells.toArray 25)
  have bb := ba.alloc ba.size (.cells #[.int .i64 kd] 3)
  have hx : Blk ((W.alloc (.cells t.cells.toArray 25)).alloc (.cells #[.int .i64 kd] 3)) W.heap.size 25 t.cells.toArray := (Blk.new W _ _).alloc _
  have hy : Blk ((W.alloc (.cells t.cells.toArray 25)).alloc (.cells #[.int .i64 kd] 3)) (W.heap.size + 1) 3 #[.int .i64 kd] := Blk.new' (by simp)
  obtain ⟨w2, hw2⟩ : ∃ w2, w2 = (W.alloc (.cells t.cells.toArray 25)).alloc (.cells #[.int .i64 kd] 3) := ⟨_, rfl⟩
  rw [← hw2] at bb hx hy
  have HB2 := Lib.hid bb
  have HTH := Lib.hid (those_any 91 #[.pointer (some ⟨W.heap.size, 0, none⟩), .pointer (some ⟨W.heap.size + 1, 0, none⟩)] (fun i => nodeB t kd (i : Nat)) w2 (fun args w => run_enter Try.func91 (by kernel_rfl) (by kernel_rfl) args w) (fun w hb i _ _ => nodes1_any (hx.next hb).range kd ((hy.next hb).cell 0) (i : Nat)))
  have hmf : ∀ (fn : Fn) (first cap : Array Value) (w : World), (Instr.makeFunc fn first cap).run Try.prog w = .ok (.func fn first cap) w := fun _ _ _ _ => rfl
  have HMF := Lib.hid hmf
  clear ba bb hx hy hmf
  go_enter Try.func90, Try.ntmps90
  go_upto_region 1 with fail
  rw [← hw2]
  clear hw2
  have hmf := HMF.out
  go_wp2_with (go_at_call 49; refine HTH.out.mono ?_; rintro e w5 ⟨v, rfl, hN, hb5⟩; have HN5 := Lib.hid hN; have HB5 := Lib.hid hb5; clear hN hb5 HTH)
  go_ret
  exact ⟨_, rfl, HN5.out.le HB2.out.size, HB2.out.trans (HB5.out.mono HB2.out.size)⟩
end Tr
end Go.Proofs.Ytohnhokddbeheaa

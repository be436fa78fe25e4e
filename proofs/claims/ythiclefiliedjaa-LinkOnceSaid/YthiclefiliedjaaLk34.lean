/-
link: the next text comes.
-/
import Derived.Test.YthiclefiliedjaaLk33
namespace Go.Proofs.Ythiclefiliedjaa
open Go.RowKit
set_option linter.unusedSimpArgs false
set_option linter.unusedVariables false
namespace Lk
set_option maxRecDepth 20000 in
set_option maxHeartbeats 4000000 in
theorem come_next_full {W w : World} {g d1 d2 : Nat} {l1 l2 : LS} {net : List Th} {sent tk : List (List Nat)} {vn vs vt : Value} (h : Mt W w g d1 d2 l1 l2 net sent tk vn vs vt) (q : Nat) (bs : List Nat) (hr : takeE l2 q = (true, 0)) (E1 : Nat) (hE : (l2.take q).ex = E1 + 1) (hE2 : E1 ≤ 100000) (hn : net.length ≤ 400) (ht : tk.length ≤ 1000) (hlt : net.length = 400) :
    Calls Try.prog 22 #[.pointer (some ⟨g, 0, none⟩), .agg (Th.cells ⟨false, q, bs⟩).toArray] w fun e w' => e = .returned (.bool true) ∧ ComeP W g d1 d2 l1 (l2.take q) net sent (tk ++ [bs]) vs w' := by
  obtain ⟨w1, hw1⟩ : ∃ w1, w1 = w.alloc (.cells (Th.cells ⟨false, q, bs⟩).toArray 60) := ⟨_, rfl⟩
  have hb1 : Below w.heap.size w w1 := by rw [hw1]; exact (Below.refl _ _).alloc (Nat.le_refl _) _
  have hx : Blk w1 w.heap.size 60 (Th.cells ⟨false, q, bs⟩).toArray := by rw [hw1]; exact Blk.new _ _ _
  have x0 : w1.cell? ⟨w.heap.size, 0, none⟩ = some (.bool false) := hx.cell 0
  have x1 : w1.cell? ⟨w.heap.size, 1, none⟩ = some (.int .u64 (q : Nat)) := hx.cell 1
  have c1 : w1.cell? ⟨g, 1, none⟩ = some (.pointer (some ⟨d2, 0, none⟩)) := (h.next hb1).blk.cell 1
  have HK := Lib.hid (h.takeK (hb1.trans ((Below.refl w1.heap.size w1).drew.mono hb1.size)) (gx := w.heap.size) ⟨Nat.le_refl _, hx.lt⟩ q)
  rw [hr] at HK
  have HW := Lib.hid hw1
  have HX := Lib.hid hx
  have HN := Lib.hid (And.intro hn (And.intro ht (And.intro hE hE2)))
  obtain ⟨l3, hl3⟩ : ∃ l3, l3 = l2.take q := ⟨_, rfl⟩
  rw [← hl3] at HK HN ⊢
  obtain ⟨nl, hnl⟩ : ∃ nl, nl = net.length := ⟨_, rfl⟩
  have HNL := Lib.hid hnl
  obtain ⟨An, kn, rfl⟩ := own_shape h.on
  obtain ⟨At, kt, rfl⟩ := own_shape h.ot
  obtain ⟨X1, hX1⟩ : ∃ X1, X1 = E1 + 1 := ⟨_, rfl⟩
  have HXX := Lib.hid hX1
  clear hX1
  have HLT := Lib.hid (show nl = 400 by rw [hnl]; exact hlt)
  clear hlt
  clear h hr hE hE2 hn ht hb1 hx hw1 hl3 hnl
  go_enter Try.func22, Try.ntmps22
  go_upto_region 1 with fail
  rw [show w.alloc (.cells (Th.cells ⟨false, q, bs⟩).toArray 60) = w1 from HW.out.symm]
  go_upto_region 4 with fail
  refine wp_region_tree (S := (fun w' => w'.cell? ⟨g, 1, none⟩ = some (.pointer (some ⟨d2, 0, none⟩)))) (.take 0 (.take 1 (.take 2 (.take 3 (.take 4 (.one 5 (.one 6 (.take 7 (.take 8 (.take 9 (.take 10 (.take 11 .nil)))))))))))) 9999 (by kernel_rfl) (by kernel_rfl) (by kernel_rfl) (by kernel_rfl) (by kernel_rfl) (fun _ _ d _ _ h => by cases d <;> exact h) c1 (fun hHeld => ?_); simp only [Tree.map, List.getElem?_toArray, List.getElem?_cons_zero, List.getElem?_cons_succ]
  (repeat (first | (refine wpTree.take (v := undef) (Or.inr ⟨by rfl, rfl⟩) ?_; simp only [Act.put, List.setIfInBounds_toArray, List.set_cons_zero, List.set_cons_succ]) | (refine wpTree.take (v := ?_) (Or.inl ⟨by rfl, ?_⟩) ?_; rotate_left; (focus (intro _ hS; (try dsimp only at hS); go_split_ands; (try subst hS); go_simp; (try (with_reducible rfl)); done)); simp only [Act.put, List.setIfInBounds_toArray, List.set_cons_zero, List.set_cons_succ])))
  refine wpTree.one (fun K hK => ?_)
  go_simp
  refine hK.out _ _ hHeld (fun _ => ?_)
  clear hK K hHeld
  (try simp only [Act.put, List.setIfInBounds_toArray, List.set_cons_zero, List.set_cons_succ])
  refine wpTree.one (fun K hK => ?_)
  go_simp
  go_at_call 14
  refine HK.out.mono ?_
  rintro e w2 ⟨rfl, hM, hxk⟩
  have H2 := Lib.hid (And.intro hM (show Blk w2 w.heap.size 60 (Th.cells ⟨false, q, bs⟩).toArray from hxk.trans (HX.out.next (Below.refl _ _).drew)))
  refine hK.out _ _ (hM.blk.cell 1) (fun _ => ?_)
  clear hK K hM hxk x0 x1 c1 HK
  (try simp only [Act.put, List.setIfInBounds_toArray, List.set_cons_zero, List.set_cons_succ])
  (repeat (first | (refine wpTree.take (v := undef) (Or.inr ⟨by rfl, rfl⟩) ?_; simp only [Act.put, List.setIfInBounds_toArray, List.set_cons_zero, List.set_cons_succ]) | (refine wpTree.take (v := ?_) (Or.inl ⟨by rfl, ?_⟩) ?_; rotate_left; (focus (intro _ hS; (try dsimp only at hS); go_split_ands; (try subst hS); go_simp; (try (with_reducible rfl)); done)); simp only [Act.put, List.setIfInBounds_toArray, List.set_cons_zero, List.set_cons_succ])))
  refine wpTree.done ?_
  have H2m := Lib.hid H2.out.1
  have c4 : w2.cell? ⟨g, 4, none⟩ = some (.slice At tk.length kt) := H2m.out.blk.cell 4
  have x2 : w2.cell? ⟨w.heap.size, 2, none⟩ = some (.string (Byt.bstr bs)) := H2.out.2.cell 2
  go_upto_region 6 with fail
  refine wp_region_treeL (S := (fun w' => w'.cell? ⟨g, 4, none⟩ = some (.slice At tk.length kt))) (.take 0 (.take 1 (.take 2 (.take 3 (.take 4 (.take 5 (.one 6 (.one 7 (.one 8 (.take 9 (.take 10 (.last 11)))))))))))) 11 (by kernel_rfl) (by kernel_rfl) (by kernel_rfl) (by kernel_rfl) (by kernel_rfl) (fun _ _ d _ _ h => by cases d <;> exact h) c4 (fun hHeld => ?_); simp only [Tree.map, List.getElem?_toArray, List.getElem?_cons_zero, List.getElem?_cons_succ]
  (repeat (first | (refine wpTree.take (v := undef) (Or.inr ⟨by rfl, rfl⟩) ?_; simp only [Act.put, List.setIfInBounds_toArray, List.set_cons_zero, List.set_cons_succ]) | (refine wpTree.take (v := ?_) (Or.inl ⟨by rfl, ?_⟩) ?_; rotate_left; (focus (intro _ hS; (try dsimp only at hS); go_split_ands; (try subst hS); go_simp; (try (with_reducible rfl)); done)); simp only [Act.put, List.setIfInBounds_toArray, List.set_cons_zero, List.set_cons_succ])))
  refine wpTree.one (fun K hK => ?_)
  go_simp
  refine hK.out _ _ hHeld (fun _ => ?_)
  clear hK K
  (try simp only [Act.put, List.setIfInBounds_toArray, List.set_cons_zero, List.set_cons_succ])
  have hb4 := ((Below.refl w2.heap.size w2).alloc (Nat.le_refl _) (.cells (strs [bs]).toArray 9)).drew
  have H4 := Lib.hid (H2m.out.next hb4)
  have hs4 : Src (w2.alloc (.cells (strs [bs]).toArray 9)).drew (some ⟨w2.heap.size, 0, none⟩) 1 (strs [bs]) := Or.inl ⟨_, rfl, fun j u hj => by
    rw [add_plain, Nat.zero_add, (Blk.new w2 9 (strs [bs]).toArray).drew.cell, List.getElem?_toArray]; exact hj⟩
  have hc5 : (w2.alloc (.cells (strs [bs]).toArray 9)).drew.cell? ⟨g, 4, none⟩ = some (.slice At tk.length kt) := H4.out.blk.cell 4
  obtain ⟨w4, hw4⟩ : ∃ w4, w4 = (w2.alloc (.cells (strs [bs]).toArray 9)).drew := ⟨_, rfl⟩
  rw [← hw4] at hs4 hc5 H4
  have hsb : (strs [bs]).toArray = #[.string (Byt.bstr bs)] := rfl
  rw [hsb] at hw4
  refine wpTree.one (fun K hK => ?_)
  go_simp
  rw [← hw4]
  refine hK.out _ _ hc5 (fun _ => ?_)
  clear hK K hHeld hsb hw4 hc5 hb4
  (try simp only [Act.put, List.setIfInBounds_toArray, List.set_cons_zero, List.set_cons_succ])
  refine wpTree.one (fun K hK => ?_)
  refine step_app_str w4 (by rfl) _ _ rfl W.heap.size (.slice At tk.length kt) tk.length (strs tk) rfl H4.out.ot _ 1 _ (strs [bs]) rfl rfl hs4 (by intro u hu; simp [strs] at hu; subst hu; rfl) (by have := HN.out.2.1; omega) H4.out.b.size ?_
  intro v9 w9 hown hg hloc
  obtain ⟨A8, k8, rfl⟩ := slc_of hown
  have hb9 : Blk w9 g 56 #[.pointer (some ⟨d1, 0, none⟩), .pointer (some ⟨d2, 0, none⟩), .slice An net.length kn, vs, .slice At tk.length kt] := by
    have hb0 := H4.out.blk
    have hgn := own_ne H4.out.ot hb0 (by decide)
    exact (hg.block g H4.out.blk.lt hgn).trans hb0
  have c49 := hb9.cell 4
  have z49 := hb9.frozen 4
  refine hK.out _ _ (hb9.cell 4) (fun _ => ?_)
  clear hK K hs4 c4 x2
  (try simp only [Act.put, List.setIfInBounds_toArray, List.set_cons_zero, List.set_cons_succ])
  (repeat (first | (refine wpTree.take (v := undef) (Or.inr ⟨by rfl, rfl⟩) ?_; simp only [Act.put, List.setIfInBounds_toArray, List.set_cons_zero, List.set_cons_succ]) | (refine wpTree.take (v := ?_) (Or.inl ⟨by rfl, ?_⟩) ?_; rotate_left; (focus (intro _ hS; (try dsimp only at hS); go_split_ands; (try subst hS); go_simp; (try (with_reducible rfl)); done)); simp only [Act.put, List.setIfInBounds_toArray, List.set_cons_zero, List.set_cons_succ])))
  have H3 := Lib.hid (H4.out.pushT bs hown hg hloc)
  clear hown hg hloc hb9
  refine wpTree.last (fun K hK => ?_)
  go_simp
  refine hK.out _ _ ?_
  clear hK K c49 z49
  (try simp only [Act.put, List.setIfInBounds_toArray, List.set_cons_zero, List.set_cons_succ])
  obtain ⟨w6, hw6⟩ : ∃ w6, w6 = w9.setCell ⟨g, 4, none⟩ (.slice A8 (tk.length + 1) k8) := ⟨_, rfl⟩
  have H3 := Lib.hid (by rw [hw6]; exact H3.out : Mt W w6 g d1 d2 l1 l3 net sent (tk ++ [bs]) (.slice An net.length kn) vs (.slice A8 (tk.length + 1) k8))
  rw [show w9.setCell ⟨g, 4, none⟩ (.slice A8 (tk.length + 1) k8) = w6 from hw6.symm]
  clear hw6 H4
  have c2 : w6.cell? ⟨g, 2, none⟩ = some (.slice An nl kn) := by rw [HNL.out]; exact H3.out.blk.cell 2
  have i1 : ¬ ((nl : Int) < 400) := by have := HLT.out; omega
  go_wp2_with fail
  go_ret
  exact ⟨rfl, _, _, H3.out⟩
set_option maxRecDepth 20000 in
set_option maxHeartbeats 4000000 in
theorem come_next {W w : World} {g d1 d2 : Nat} {l1 l2 : LS} {net : List Th} {sent tk : List (List Nat)} {vn vs vt : Value} (h : Mt W w g d1 d2 l1 l2 net sent tk vn vs vt) (q : Nat) (bs : List Nat) (hr : takeE l2 q = (true, 0)) (E1 : Nat) (hE : (l2.take q).ex = E1 + 1) (hE2 : E1 ≤ 100000) (hn : net.length ≤ 400) (ht : tk.length ≤ 1000) (hlt : net.length < 400) :
    Calls Try.prog 22 #[.pointer (some ⟨g, 0, none⟩), .agg (Th.cells ⟨false, q, bs⟩).toArray] w fun e w' => e = .returned (.bool true) ∧ ComeP W g d1 d2 l1 (l2.take q) (net ++ [⟨true, E1, []⟩]) sent (tk ++ [bs]) vs w' := by
  obtain ⟨w1, hw1⟩ : ∃ w1, w1 = w.alloc (.cells (Th.cells ⟨false, q, bs⟩).toArray 60) := ⟨_, rfl⟩
  have hb1 : Below w.heap.size w w1 := by rw [hw1]; exact (Below.refl _ _).alloc (Nat.le_refl _) _
  have hx : Blk w1 w.heap.size 60 (Th.cells ⟨false, q, bs⟩).toArray := by rw [hw1]; exact Blk.new _ _ _
  have x0 : w1.cell? ⟨w.heap.size, 0, none⟩ = some (.bool false) := hx.cell 0
  have x1 : w1.cell? ⟨w.heap.size, 1, none⟩ = some (.int .u64 (q : Nat)) := hx.cell 1
  have c1 : w1.cell? ⟨g, 1, none⟩ = some (.pointer (some ⟨d2, 0, none⟩)) := (h.next hb1).blk.cell 1
  have HK := Lib.hid (h.takeK (hb1.trans ((Below.refl w1.heap.size w1).drew.mono hb1.size)) (gx := w.heap.size) ⟨Nat.le_refl _, hx.lt⟩ q)
  rw [hr] at HK
  have HW := Lib.hid hw1
  have HX := Lib.hid hx
  have HN := Lib.hid (And.intro hn (And.intro ht (And.intro hE hE2)))
  obtain ⟨l3, hl3⟩ : ∃ l3, l3 = l2.take q := ⟨_, rfl⟩
  rw [← hl3] at HK HN ⊢
  obtain ⟨nl, hnl⟩ : ∃ nl, nl = net.length := ⟨_, rfl⟩
  have HNL := Lib.hid hnl
  obtain ⟨An, kn, rfl⟩ := own_shape h.on
  obtain ⟨At, kt, rfl⟩ := own_shape h.ot
  obtain ⟨X1, hX1⟩ : ∃ X1, X1 = E1 + 1 := ⟨_, rfl⟩
  have HXX := Lib.hid hX1
  clear hX1
  have HLT := Lib.hid (show nl < 400 by rw [hnl]; exact hlt)
  clear hlt
  clear h hr hE hE2 hn ht hb1 hx hw1 hl3 hnl
  go_enter Try.func22, Try.ntmps22
  go_upto_region 1 with fail
  rw [show w.alloc (.cells (Th.cells ⟨false, q, bs⟩).toArray 60) = w1 from HW.out.symm]
  go_upto_region 4 with fail
  refine wp_region_tree (S := (fun w' => w'.cell? ⟨g, 1, none⟩ = some (.pointer (some ⟨d2, 0, none⟩)))) (.take 0 (.take 1 (.take 2 (.take 3 (.take 4 (.one 5 (.one 6 (.take 7 (.take 8 (.take 9 (.take 10 (.take 11 .nil)))))))))))) 9999 (by kernel_rfl) (by kernel_rfl) (by kernel_rfl) (by kernel_rfl) (by kernel_rfl) (fun _ _ d _ _ h => by cases d <;> exact h) c1 (fun hHeld => ?_); simp only [Tree.map, List.getElem?_toArray, List.getElem?_cons_zero, List.getElem?_cons_succ]
  (repeat (first | (refine wpTree.take (v := undef) (Or.inr ⟨by rfl, rfl⟩) ?_; simp only [Act.put, List.setIfInBounds_toArray, List.set_cons_zero, List.set_cons_succ]) | (refine wpTree.take (v := ?_) (Or.inl ⟨by rfl, ?_⟩) ?_; rotate_left; (focus (intro _ hS; (try dsimp only at hS); go_split_ands; (try subst hS); go_simp; (try (with_reducible rfl)); done)); simp only [Act.put, List.setIfInBounds_toArray, List.set_cons_zero, List.set_cons_succ])))
  refine wpTree.one (fun K hK => ?_)
  go_simp
  refine hK.out _ _ hHeld (fun _ => ?_)
  clear hK K hHeld
  (try simp only [Act.put, List.setIfInBounds_toArray, List.set_cons_zero, List.set_cons_succ])
  refine wpTree.one (fun K hK => ?_)
  go_simp
  go_at_call 14
  refine HK.out.mono ?_
  rintro e w2 ⟨rfl, hM, hxk⟩
  have H2 := Lib.hid (And.intro hM (show Blk w2 w.heap.size 60 (Th.cells ⟨false, q, bs⟩).toArray from hxk.trans (HX.out.next (Below.refl _ _).drew)))
  refine hK.out _ _ (hM.blk.cell 1) (fun _ => ?_)
  clear hK K hM hxk x0 x1 c1 HK
  (try simp only [Act.put, List.setIfInBounds_toArray, List.set_cons_zero, List.set_cons_succ])
  (repeat (first | (refine wpTree.take (v := undef) (Or.inr ⟨by rfl, rfl⟩) ?_; simp only [Act.put, List.setIfInBounds_toArray, List.set_cons_zero, List.set_cons_succ]) | (refine wpTree.take (v := ?_) (Or.inl ⟨by rfl, ?_⟩) ?_; rotate_left; (focus (intro _ hS; (try dsimp only at hS); go_split_ands; (try subst hS); go_simp; (try (with_reducible rfl)); done)); simp only [Act.put, List.setIfInBounds_toArray, List.set_cons_zero, List.set_cons_succ])))
  refine wpTree.done ?_
  have H2m := Lib.hid H2.out.1
  have c4 : w2.cell? ⟨g, 4, none⟩ = some (.slice At tk.length kt) := H2m.out.blk.cell 4
  have x2 : w2.cell? ⟨w.heap.size, 2, none⟩ = some (.string (Byt.bstr bs)) := H2.out.2.cell 2
  go_upto_region 6 with fail
  refine wp_region_treeL (S := (fun w' => w'.cell? ⟨g, 4, none⟩ = some (.slice At tk.length kt))) (.take 0 (.take 1 (.take 2 (.take 3 (.take 4 (.take 5 (.one 6 (.one 7 (.one 8 (.take 9 (.take 10 (.last 11)))))))))))) 11 (by kernel_rfl) (by kernel_rfl) (by kernel_rfl) (by kernel_rfl) (by kernel_rfl) (fun _ _ d _ _ h => by cases d <;> exact h) c4 (fun hHeld => ?_); simp only [Tree.map, List.getElem?_toArray, List.getElem?_cons_zero, List.getElem?_cons_succ]
  (repeat (first | (refine wpTree.take (v := undef) (Or.inr ⟨by rfl, rfl⟩) ?_; simp only [Act.put, List.setIfInBounds_toArray, List.set_cons_zero, List.set_cons_succ]) | (refine wpTree.take (v := ?_) (Or.inl ⟨by rfl, ?_⟩) ?_; rotate_left; (focus (intro _ hS; (try dsimp only at hS); go_split_ands; (try subst hS); go_simp; (try (with_reducible rfl)); done)); simp only [Act.put, List.setIfInBounds_toArray, List.set_cons_zero, List.set_cons_succ])))
  refine wpTree.one (fun K hK => ?_)
  go_simp
  refine hK.out _ _ hHeld (fun _ => ?_)
  clear hK K
  (try simp only [Act.put, List.setIfInBounds_toArray, List.set_cons_zero, List.set_cons_succ])
  have hb4 := ((Below.refl w2.heap.size w2).alloc (Nat.le_refl _) (.cells (strs [bs]).toArray 9)).drew
  have H4 := Lib.hid (H2m.out.next hb4)
  have hs4 : Src (w2.alloc (.cells (strs [bs]).toArray 9)).drew (some ⟨w2.heap.size, 0, none⟩) 1 (strs [bs]) := Or.inl ⟨_, rfl, fun j u hj => by
    rw [add_plain, Nat.zero_add, (Blk.new w2 9 (strs [bs]).toArray).drew.cell, List.getElem?_toArray]; exact hj⟩
  have hc5 : (w2.alloc (.cells (strs [bs]).toArray 9)).drew.cell? ⟨g, 4, none⟩ = some (.slice At tk.length kt) := H4.out.blk.cell 4
  obtain ⟨w4, hw4⟩ : ∃ w4, w4 = (w2.alloc (.cells (strs [bs]).toArray 9)).drew := ⟨_, rfl⟩
  rw [← hw4] at hs4 hc5 H4
  have hsb : (strs [bs]).toArray = #[.string (Byt.bstr bs)] := rfl
  rw [hsb] at hw4
  refine wpTree.one (fun K hK => ?_)
  go_simp
  rw [← hw4]
  refine hK.out _ _ hc5 (fun _ => ?_)
  clear hK K hHeld hsb hw4 hc5 hb4
  (try simp only [Act.put, List.setIfInBounds_toArray, List.set_cons_zero, List.set_cons_succ])
  refine wpTree.one (fun K hK => ?_)
  refine step_app_str w4 (by rfl) _ _ rfl W.heap.size (.slice At tk.length kt) tk.length (strs tk) rfl H4.out.ot _ 1 _ (strs [bs]) rfl rfl hs4 (by intro u hu; simp [strs] at hu; subst hu; rfl) (by have := HN.out.2.1; omega) H4.out.b.size ?_
  intro v9 w9 hown hg hloc
  obtain ⟨A8, k8, rfl⟩ := slc_of hown
  have hb9 : Blk w9 g 56 #[.pointer (some ⟨d1, 0, none⟩), .pointer (some ⟨d2, 0, none⟩), .slice An net.length kn, vs, .slice At tk.length kt] := by
    have hb0 := H4.out.blk
    have hgn := own_ne H4.out.ot hb0 (by decide)
    exact (hg.block g H4.out.blk.lt hgn).trans hb0
  have c49 := hb9.cell 4
  have z49 := hb9.frozen 4
  refine hK.out _ _ (hb9.cell 4) (fun _ => ?_)
  clear hK K hs4 c4 x2
  (try simp only [Act.put, List.setIfInBounds_toArray, List.set_cons_zero, List.set_cons_succ])
  (repeat (first | (refine wpTree.take (v := undef) (Or.inr ⟨by rfl, rfl⟩) ?_; simp only [Act.put, List.setIfInBounds_toArray, List.set_cons_zero, List.set_cons_succ]) | (refine wpTree.take (v := ?_) (Or.inl ⟨by rfl, ?_⟩) ?_; rotate_left; (focus (intro _ hS; (try dsimp only at hS); go_split_ands; (try subst hS); go_simp; (try (with_reducible rfl)); done)); simp only [Act.put, List.setIfInBounds_toArray, List.set_cons_zero, List.set_cons_succ])))
  have H3 := Lib.hid (H4.out.pushT bs hown hg hloc)
  clear hown hg hloc hb9
  refine wpTree.last (fun K hK => ?_)
  go_simp
  refine hK.out _ _ ?_
  clear hK K c49 z49
  (try simp only [Act.put, List.setIfInBounds_toArray, List.set_cons_zero, List.set_cons_succ])
  obtain ⟨w6, hw6⟩ : ∃ w6, w6 = w9.setCell ⟨g, 4, none⟩ (.slice A8 (tk.length + 1) k8) := ⟨_, rfl⟩
  have H3 := Lib.hid (by rw [hw6]; exact H3.out : Mt W w6 g d1 d2 l1 l3 net sent (tk ++ [bs]) (.slice An net.length kn) vs (.slice A8 (tk.length + 1) k8))
  rw [show w9.setCell ⟨g, 4, none⟩ (.slice A8 (tk.length + 1) k8) = w6 from hw6.symm]
  clear hw6 H4
  have c2 : w6.cell? ⟨g, 2, none⟩ = some (.slice An nl kn) := by rw [HNL.out]; exact H3.out.blk.cell 2
  have c1 : w6.cell? ⟨g, 1, none⟩ = some (.pointer (some ⟨d2, 0, none⟩)) := H3.out.blk.cell 1
  have i1 : (nl : Int) < 400 := by have := HLT.out; omega
  go_upto_region 8 with fail
  clear i1
  have HEX := Lib.hid (show Calls Try.prog 18 #[.pointer (some ⟨d2, 0, none⟩)] w6.drew fun e w' => e = .returned (.int .u64 (X1 : Nat)) ∧ w6.drew = w' from by
    obtain ⟨F, hF⟩ := (H3.out.next (Below.refl _ _).drew).duo.two
    have hh := expect_any _ hF
    rw [show l3.ex = X1 by rw [HN.out.2.2.1, HXX.out]] at hh
    exact hh)
  have e1 : IntKind.u64.wrap ((X1 : Int) - 1) = (E1 : Nat) := by have := HN.out.2.2.2; have := HXX.out; rw [IntKind.wrap_u64]; omega
  have hcc : w6.cell? ⟨g, 1, none⟩ = some (.pointer (some ⟨d2, 0, none⟩)) ∧ w6.cell? ⟨g, 2, none⟩ = some (.slice An nl kn) := ⟨c1, c2⟩
  refine wp_region_treeL (S := (fun w' => w'.cell? ⟨g, 1, none⟩ = some (.pointer (some ⟨d2, 0, none⟩)) ∧ w'.cell? ⟨g, 2, none⟩ = some (.slice An nl kn))) (.take 0 (.take 1 (.take 2 (.take 3 (.take 4 (.take 5 (.take 6 (.take 7 (.take 8 (.one 9 (.take 10 (.take 11 (.one 12 (.one 13 (.take 14 (.take 15 (.last 16))))))))))))))))) 16 (by kernel_rfl) (by kernel_rfl) (by kernel_rfl) (by kernel_rfl) (by kernel_rfl) (fun _ _ d _ _ h => by cases d <;> exact h) hcc (fun hHeld => ?_); simp only [Tree.map, List.getElem?_toArray, List.getElem?_cons_zero, List.getElem?_cons_succ]
  (repeat (first | (refine wpTree.take (v := undef) (Or.inr ⟨by rfl, rfl⟩) ?_; simp only [Act.put, List.setIfInBounds_toArray, List.set_cons_zero, List.set_cons_succ]) | (refine wpTree.take (v := ?_) (Or.inl ⟨by rfl, ?_⟩) ?_; rotate_left; (focus (intro _ hS; (try dsimp only at hS); go_split_ands; (try subst hS); go_simp; (try (with_reducible rfl)); done)); simp only [Act.put, List.setIfInBounds_toArray, List.set_cons_zero, List.set_cons_succ])))
  refine wpTree.one (fun K hK => ?_)
  go_simp
  go_at_call 18
  refine HEX.out.mono ?_
  rintro e wx ⟨rfl, rfl⟩
  refine hK.out _ _ hHeld (fun _ => ?_)
  clear hK K HEX
  (try simp only [Act.put, List.setIfInBounds_toArray, List.set_cons_zero, List.set_cons_succ])
  (repeat (first | (refine wpTree.take (v := undef) (Or.inr ⟨by rfl, rfl⟩) ?_; simp only [Act.put, List.setIfInBounds_toArray, List.set_cons_zero, List.set_cons_succ]) | (refine wpTree.take (v := ?_) (Or.inl ⟨by rfl, ?_⟩) ?_; rotate_left; (focus (intro _ hS; (try dsimp only at hS); go_split_ands; (try subst hS); go_simp; (try (with_reducible rfl)); done)); simp only [Act.put, List.setIfInBounds_toArray, List.set_cons_zero, List.set_cons_succ])))
  clear e1
  have hb5 := ((Below.refl w6.heap.size w6).alloc (Nat.le_refl _) (.cells (Th.cells ⟨true, E1, []⟩).toArray 60)).drew
  have H5 := Lib.hid (H3.out.next hb5)
  have hs5 : Src (w6.alloc (.cells (Th.cells ⟨true, E1, []⟩).toArray 60)).drew (some ⟨w6.heap.size, 0, none⟩) 1 (Th.cells ⟨true, E1, []⟩) := Or.inl ⟨_, rfl, fun j u hj => by
    rw [add_plain, Nat.zero_add, (Blk.new w6 60 (Th.cells ⟨true, E1, []⟩).toArray).drew.cell, List.getElem?_toArray]; exact hj⟩
  have hcl : (Th.cells ⟨true, E1, []⟩).toArray = #[.bool true, .int .u64 (E1 : Nat), .string ⟨#[]⟩] := by unfold Th.cells; rw [bstr_nil]
  have hc5 : (w6.alloc (.cells (Th.cells ⟨true, E1, []⟩).toArray 60)).drew.cell? ⟨g, 1, none⟩ = some (.pointer (some ⟨d2, 0, none⟩)) ∧ (w6.alloc (.cells (Th.cells ⟨true, E1, []⟩).toArray 60)).drew.cell? ⟨g, 2, none⟩ = some (.slice An nl kn) := ⟨H5.out.blk.cell 1, by rw [HNL.out]; exact H5.out.blk.cell 2⟩
  obtain ⟨w5, hw5⟩ : ∃ w5, w5 = (w6.alloc (.cells (Th.cells ⟨true, E1, []⟩).toArray 60)).drew := ⟨_, rfl⟩
  rw [← hw5] at hs5 hc5 H5
  rw [hcl] at hw5
  refine wpTree.one (fun K hK => ?_)
  go_simp
  rw [← hw5]
  refine hK.out _ _ hc5 (fun _ => ?_)
  clear hK K hHeld hcl hw5 hc5 hb5
  (try simp only [Act.put, List.setIfInBounds_toArray, List.set_cons_zero, List.set_cons_succ])
  have hon : w5.ownsRow W.heap.size 60 3 (.slice An nl kn) nl (ths net) := by rw [HNL.out]; exact H5.out.on
  refine wpTree.one (fun K hK => ?_)
  refine step_app_th w5 (by rfl) _ _ rfl W.heap.size (.slice An nl kn) nl (ths net) rfl hon _ _ (Th.cells ⟨true, E1, []⟩) rfl rfl hs5 (th_ones _) (by have := HLT.out; omega) H5.out.b.size ?_
  intro v9 w9 hown hg hloc
  obtain ⟨A9, k9, rfl⟩ := slc_of hown
  have hb9 : Blk w9 g 56 #[.pointer (some ⟨d1, 0, none⟩), .pointer (some ⟨d2, 0, none⟩), .slice An nl kn, vs, .slice A8 (tk.length + 1) k8] := by
    have hb0 := H5.out.blk
    have hgn := own_ne H5.out.on hb0 (by decide)
    rw [← HNL.out] at hb0 hgn
    exact (hg.block g H5.out.blk.lt hgn).trans hb0
  have c29 := hb9.cell 2
  have z29 := hb9.frozen 2
  refine hK.out _ _ ⟨hb9.cell 1, hb9.cell 2⟩ (fun _ => ?_)
  clear hK K hs5 hon c1 c2 hcc
  (try simp only [Act.put, List.setIfInBounds_toArray, List.set_cons_zero, List.set_cons_succ])
  (repeat (first | (refine wpTree.take (v := undef) (Or.inr ⟨by rfl, rfl⟩) ?_; simp only [Act.put, List.setIfInBounds_toArray, List.set_cons_zero, List.set_cons_succ]) | (refine wpTree.take (v := ?_) (Or.inl ⟨by rfl, ?_⟩) ?_; rotate_left; (focus (intro _ hS; (try dsimp only at hS); go_split_ands; (try subst hS); go_simp; (try (with_reducible rfl)); done)); simp only [Act.put, List.setIfInBounds_toArray, List.set_cons_zero, List.set_cons_succ])))
  have HEND := Lib.hid (H5.out.pushN ⟨true, E1, []⟩ (by rw [← HNL.out]; exact hown) (by rw [← HNL.out]; exact hg) (by rw [← HNL.out]; exact hloc))
  clear hown hg hloc hb9
  refine wpTree.last (fun K hK => ?_)
  go_simp
  refine hK.out _ _ ?_
  clear hK K
  (try simp only [Act.put, List.setIfInBounds_toArray, List.set_cons_zero, List.set_cons_succ])
  go_wp2_with fail
  go_ret
  exact ⟨rfl, _, _, HEND.out⟩
end Lk
end Go.Proofs.Ythiclefiliedjaa

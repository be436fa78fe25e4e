/-
MsgMakes holds: what the makers make is as they say. No condition.
-/
import Derived.Test.YtkigaclcmodjaaaMs8
import Derived.Test.YtkigaclcmodjaaaMsRb
namespace Go.Proofs.Ytkigaclcmodjaaa
open Go.RowKit Go.ChangeShapes Go.WideShapes Go.ChangeAt
set_option linter.unusedSimpArgs false
set_option linter.unusedVariables false
namespace Mg
theorem ez_item : Ev.zero.item.toArray = #[.int .u64 0, .int .i64 0, .int .u32 0, .int .i64 0, .int .i64 0, .int .u32 0, .int .u32 0, .int .u32 0, .int .u32 0, .int .u32 0, .int .u32 0, .int .u32 0, .int .u32 0, .int .u32 0, .int .u32 0, .int .u32 0, .int .u32 0, .int .i64 0, .int .i64 0, .int .i64 0, .int .u64 0] := by
  rw [item_def, show Ev.zero.l = Lab.zero from rfl, show Ev.zero.o.plain = [.int .i64 0, .int .i64 0, .int .i64 0, .int .u64 0] from plain_def _, lab_zeroL]
  rfl
theorem built_rez : Try.prog.built 37 [] = some Ev.zero.item.toArray := by rw [ez_item]; kernel_rfl
theorem rb_of (l : Lab) : Try.prog.built 42 [(0, .int .i64 1), (5, .agg l.cells.toArray)] = some (Ms.plain { zM 1 with l := l }).toArray := by
  rw [built_rfillM, pfill_k, pfill_l, Instr.fill]; rfl
theorem rb_ev (k : Int) (x : Ev) : Try.prog.built 42 [(0, .int .i64 k), (6, .agg x.item.toArray)] = some (Ms.plain { zM k with x := x }).toArray := by
  rw [built_rfillM, pfill_k, pfill_x, Instr.fill]; rfl
theorem rb_ask (k a : Int) : Try.prog.built 42 [(0, .int .i64 k), (1, .int .i64 a), (6, .agg Ev.zero.item.toArray)] = some (Ms.plain { zM k with se := a }).toArray := by
  rw [built_rfillM, pfill_k, pfill_se, pfill_x, Instr.fill]; rfl
theorem rb_end (a b : Int) : Try.prog.built 42 [(0, .int .i64 5), (1, .int .i64 a), (2, .int .i64 b)] = some (Ms.plain { zM 5 with se := a, co := b }).toArray := by
  rw [built_rfillM, pfill_k, pfill_se, pfill_co, Instr.fill]; rfl
theorem rb_say (a b : Int) (s : St) : Try.prog.built 42 [(0, .int .i64 10), (3, .int .i64 a), (4, .int .i64 b), (7, .agg s.cells.toArray)] = some (Ms.plain { zM 10 with ca := a, ro := b, s := s }).toArray := by
  rw [built_rfillM, pfill_k, pfill_ca, pfill_ro, pfill_s, Instr.fill]; rfl
theorem sameM_self (m : Ms) : sameM m m = true := (sameM_iff _ _).2 rfl
set_option maxRecDepth 100000 in
set_option maxHeartbeats 32000000 in
theorem makes_walk (l : Lab) (x : Ev) (k a b : Int) (s : St) (W : World) :
    Calls Try.prog 3 #[.agg l.cells.toArray, .agg x.item.toArray, .int .i64 k, .int .i64 a, .int .i64 b, .agg s.cells.toArray] W fun e W' => e = .returned (.bool true) ∧ Below W.heap.size W W' := by
  have b1 : Blk (((W.alloc (.cells l.cells.toArray 27)).alloc (.cells x.item.toArray 31)).alloc (.cells s.cells.toArray 33)) W.heap.size 27 l.cells.toArray := ((Blk.new _ _ _).alloc _).alloc _
  have b2 : Blk (((W.alloc (.cells l.cells.toArray 27)).alloc (.cells x.item.toArray 31)).alloc (.cells s.cells.toArray 33)) (W.heap.size + 1) 31 x.item.toArray := (Blk.new' (by simp)).alloc _
  have b3 : Blk (((W.alloc (.cells l.cells.toArray 27)).alloc (.cells x.item.toArray 31)).alloc (.cells s.cells.toArray 33)) (W.heap.size + 2) 33 s.cells.toArray := Blk.new' (by simp)
  have hB := (((Below.refl W.heap.size W).alloc (Nat.le_refl _) (.cells l.cells.toArray 27)).alloc (by simp) (.cells x.item.toArray 31)).alloc (by simp; omega) (.cells s.cells.toArray 33)
  go_enter Try.func3, Try.ntmps3
  go_upto_region 1 with fail
  obtain ⟨w1, hw1⟩ : ∃ w1, w1 = (((W.alloc (.cells l.cells.toArray 27)).alloc (.cells x.item.toArray 31)).alloc (.cells s.cells.toArray 33)) := ⟨_, rfl⟩
  rw [← hw1] at b1 b2 b3 hB ⊢
  have H1 := Lib.hid (And.intro b1 (And.intro b2 (And.intro b3 hB)))
  have ri := b2.range
  clear hw1 b1 b2 b3 hB
  go_wp2_with (first | (refine wpList_load_mid rfl 31 _ rfl _ _ rfl x.item _ ri Try.underlying31 rfl (iinfo _) ?_))
  refine (as6_any x w1).mono ?_
  rintro e w2 ⟨rfl, hb⟩
  have H2 := Lib.hid (And.intro (H1.out.1.next hb) (And.intro (H1.out.2.1.next hb) (And.intro (H1.out.2.2.1.next hb) (H1.out.2.2.2.trans (hb.mono H1.out.2.2.2.size)))))
  clear hb H1 ri
  go_upto_region 2 with (refine wpList_store_blk rfl 37 _ _ rfl w2.heap.size 37 #[.int .u64 0, .int .i64 0, .int .u32 0, .int .i64 0, .int .i64 0, .int .u32 0, .int .u32 0, .int .u32 0, .int .u32 0, .int .u32 0, .int .u32 0, .int .u32 0, .int .u32 0, .int .u32 0, .int .u32 0, .int .u32 0, .int .u32 0, .int .i64 0, .int .i64 0, .int .i64 0, .int .u64 0] x.item.toArray rfl rfl (Blk.new' rfl) (einfoA6 _) (item_siz _) (item_one _) ?_; intro hy)
  have hb : Below w2.heap.size w2 ((w2.alloc (.cells #[.int .u64 0, .int .i64 0, .int .u32 0, .int .i64 0, .int .i64 0, .int .u32 0, .int .u32 0, .int .u32 0, .int .u32 0, .int .u32 0, .int .u32 0, .int .u32 0, .int .u32 0, .int .u32 0, .int .u32 0, .int .u32 0, .int .u32 0, .int .i64 0, .int .i64 0, .int .i64 0, .int .u64 0] 37)).setRow w2.heap.size x.item.toArray) := below_setRow ((Below.refl _ _).alloc (Nat.le_refl _) _) (Nat.le_refl _) _
  obtain ⟨w3, hw3⟩ : ∃ w3, w3 = (w2.alloc (.cells #[.int .u64 0, .int .i64 0, .int .u32 0, .int .i64 0, .int .i64 0, .int .u32 0, .int .u32 0, .int .u32 0, .int .u32 0, .int .u32 0, .int .u32 0, .int .u32 0, .int .u32 0, .int .u32 0, .int .u32 0, .int .u32 0, .int .u32 0, .int .i64 0, .int .i64 0, .int .i64 0, .int .u64 0] 37)).setRow w2.heap.size x.item.toArray := ⟨_, rfl⟩
  rw [← hw3] at hb hy ⊢
  obtain ⟨g, hg⟩ : ∃ g, g = w2.heap.size := ⟨_, rfl⟩
  rw [← hg] at hy ⊢
  have H3 := Lib.hid (And.intro (H2.out.1.next hb) (And.intro (H2.out.2.1.next hb) (And.intro (H2.out.2.2.1.next hb) (And.intro (H2.out.2.2.2.trans (hb.mono H2.out.2.2.2.size)) hy))))
  clear hw3 hb hy hg H2
  go_upto_region 3 with (first | (refine wpList_build_lit Ev.zero.item.toArray rfl 37 _ rfl built_rez ?_) | (refine wpList_store_blk rfl 37 _ _ rfl w3.heap.size 37 #[.int .u64 0, .int .i64 0, .int .u32 0, .int .i64 0, .int .i64 0, .int .u32 0, .int .u32 0, .int .u32 0, .int .u32 0, .int .u32 0, .int .u32 0, .int .u32 0, .int .u32 0, .int .u32 0, .int .u32 0, .int .u32 0, .int .u32 0, .int .i64 0, .int .i64 0, .int .i64 0, .int .u64 0] Ev.zero.item.toArray rfl rfl (Blk.new' rfl) (einfoA6 _) (item_siz _) (item_one _) ?_; intro hy))
  have hb : Below w3.heap.size w3 ((w3.alloc (.cells #[.int .u64 0, .int .i64 0, .int .u32 0, .int .i64 0, .int .i64 0, .int .u32 0, .int .u32 0, .int .u32 0, .int .u32 0, .int .u32 0, .int .u32 0, .int .u32 0, .int .u32 0, .int .u32 0, .int .u32 0, .int .u32 0, .int .u32 0, .int .i64 0, .int .i64 0, .int .i64 0, .int .u64 0] 37)).setRow w3.heap.size Ev.zero.item.toArray) := below_setRow ((Below.refl _ _).alloc (Nat.le_refl _) _) (Nat.le_refl _) _
  obtain ⟨w4, hw4⟩ : ∃ w4, w4 = (w3.alloc (.cells #[.int .u64 0, .int .i64 0, .int .u32 0, .int .i64 0, .int .i64 0, .int .u32 0, .int .u32 0, .int .u32 0, .int .u32 0, .int .u32 0, .int .u32 0, .int .u32 0, .int .u32 0, .int .u32 0, .int .u32 0, .int .u32 0, .int .u32 0, .int .i64 0, .int .i64 0, .int .i64 0, .int .u64 0] 37)).setRow w3.heap.size Ev.zero.item.toArray := ⟨_, rfl⟩
  rw [← hw4] at hb hy ⊢
  obtain ⟨q, hq⟩ : ∃ q, q = w3.heap.size := ⟨_, rfl⟩
  rw [← hq] at hy ⊢
  have r1 := (H3.out.1.next hb).range
  have r2 := (H3.out.2.1.next hb).range
  have r3 := (H3.out.2.2.1.next hb).range
  have r4 := (H3.out.2.2.2.2.next hb).range
  have r5 := hy.range
  have H4 := Lib.hid (H3.out.2.2.2.1.trans (hb.mono H3.out.2.2.2.1.size))
  clear hw4 hb hy hq H3
  have q1 : ∀ m w, (Op.equalIn 10000 42 (.agg (Ms.plain m).toArray) (.agg (Ms.plain m).toArray)).run Try.prog w = .ok true w := fun m w => by rw [eq_rmsg, sameM_self]
  obtain ⟨m1, hm1⟩ : ∃ m : Ms, m = { zM 1 with l := l } := ⟨_, rfl⟩
  obtain ⟨m2, hm2⟩ : ∃ m : Ms, m = { zM 2 with x := x } := ⟨_, rfl⟩
  obtain ⟨m3, hm3⟩ : ∃ m : Ms, m = { zM 3 with x := x } := ⟨_, rfl⟩
  obtain ⟨m4, hm4⟩ : ∃ m : Ms, m = { zM k with se := a } := ⟨_, rfl⟩
  obtain ⟨m5, hm5⟩ : ∃ m : Ms, m = { zM 5 with se := a, co := b } := ⟨_, rfl⟩
  obtain ⟨m6, hm6⟩ : ∃ m : Ms, m = { zM 10 with ca := a, ro := b, s := s } := ⟨_, rfl⟩
  have C1 := Lib.hid (of_any l)
  have C2 := Lib.hid (hand_any x)
  have C3 := Lib.hid (part_any x)
  have C4 := Lib.hid (ask_any k a)
  have C5 := Lib.hid (end_any a b)
  have C6 := Lib.hid (say_any a b s)
  have R1 := Lib.hid (rb_of l)
  have R2 := Lib.hid (rb_ev 2 x)
  have R3 := Lib.hid (rb_ev 3 x)
  have R4 := Lib.hid (rb_ask k a)
  have R5 := Lib.hid (rb_end a b)
  have R6 := Lib.hid (rb_say a b s)
  rw [← hm1] at C1 R1
  rw [← hm2] at C2 R2
  rw [← hm3] at C3 R3
  rw [← hm4] at C4 R4
  rw [← hm5] at C5 R5
  rw [← hm6] at C6 R6
  clear hm1 hm2 hm3 hm4 hm5 hm6
  have e1 := q1 m1
  have e2 := q1 m2
  have e3 := q1 m3
  have e4 := q1 m4
  have e5 := q1 m5
  have e6 := q1 m6
  clear q1
  refine wp_region_tree (S := (fun W' => Below (w4).heap.size w4 W')) (.one 0 (.take 1 (.take 2 (.take 5 (.one 3 (.one 4 (.one 6 (.take 7 (.take 8 (.take 9 (.take 10 (.take 11 (.take 15 (.take 16 (.one 12 (.one 13 (.one 14 (.take 17 (.take 18 (.take 19 (.take 20 (.take 24 (.take 25 (.one 21 (.one 22 (.one 23 (.take 26 (.take 27 (.take 28 (.take 29 (.take 30 (.take 33 (.take 34 (.take 35 (.take 36 (.one 31 (.one 32 (.take 37 (.take 38 (.take 39 (.take 40 (.take 41 (.take 44 (.take 45 (.take 46 (.one 42 (.one 43 (.take 47 (.take 48 (.take 49 (.take 50 (.take 51 (.take 52 (.take 55 (.take 56 (.take 57 (.one 53 (.one 54 (.one 58 (.take 59 (.take 60 (.take 61 (.take 62 .nil))))))))))))))))))))))))))))))))))))))))))))))))))))))))))))))) 9999 (by kernel_rfl) (by kernel_rfl) (by kernel_rfl) (by kernel_rfl) (by kernel_rfl) (fun _ _ d _ _ h => by cases d <;> exact h) ?_ (fun hHeld => ?_); (focus (exact (Below.refl _ _).drew)); simp only [Tree.map, List.getElem?_toArray, List.getElem?_cons_zero, List.getElem?_cons_succ]
  refine wpTree.one (fun K hK => ?_)
  go_simp
  go_at_call 7
  refine (alive23_any _).mono ?_
  rintro e u1 ⟨rfl, hbu1⟩
  have hBelow := Below.trans hHeld (hbu1.mono (Below.size hHeld))
  refine hK.out _ _ hBelow (fun hHeld' => ?_)
  clear hK K hHeld hbu1 hBelow
  have hHeld := hHeld'
  clear hHeld'
  (repeat (first | (refine wpTree.take (v := undef) (Or.inr ⟨by rfl, rfl⟩) ?_; simp only [Act.put, List.setIfInBounds_toArray, List.set_cons_zero, List.set_cons_succ]) | (refine wpTree.take (v := .agg (Lab.cells ?_).toArray) (yieldsIf_load_mid rfl 27 _ rfl _ _ rfl (Lab.cells _) _ ?_ Try.underlying27 rfl (linfo _)) ?_; rotate_left; (focus (intro _ hS; refine range_next hS ?_; assumption)); simp only [Act.put, List.setIfInBounds_toArray, List.set_cons_zero, List.set_cons_succ]) | (refine wpTree.take (v := .agg (Ev.item ?_).toArray) (yieldsIf_load_mid rfl 31 _ rfl _ _ rfl (Ev.item _) _ ?_ Try.underlying31 rfl (iinfo _)) ?_; rotate_left; (focus (intro _ hS; refine range_next hS ?_; assumption)); simp only [Act.put, List.setIfInBounds_toArray, List.set_cons_zero, List.set_cons_succ]) | (refine wpTree.take (v := .agg (Ev.item ?_).toArray) (yieldsIf_load_mid rfl 37 _ rfl _ _ rfl (Ev.item _) _ ?_ Try.underlying37 rfl (einfoL6 _)) ?_; rotate_left; (focus (intro _ hS; refine range_next hS ?_; assumption)); simp only [Act.put, List.setIfInBounds_toArray, List.set_cons_zero, List.set_cons_succ]) | (refine wpTree.take (v := .agg (St.cells ?_).toArray) (yieldsIf_load_mid rfl 33 _ rfl _ _ rfl (St.cells _) _ ?_ Try.underlying33 rfl (stinfo _)) ?_; rotate_left; (focus (intro _ hS; refine range_next hS ?_; assumption)); simp only [Act.put, List.setIfInBounds_toArray, List.set_cons_zero, List.set_cons_succ]) | (refine wpTree.take (yields_build' (Ms.plain m2).toArray (by rfl) 42 [(0, _), (6, _)] rfl R2.out) ?_; simp only [Act.put, List.setIfInBounds_toArray, List.set_cons_zero, List.set_cons_succ]) | (refine wpTree.take (yields_build' (Ms.plain m3).toArray (by rfl) 42 [(0, _), (6, _)] rfl R3.out) ?_; simp only [Act.put, List.setIfInBounds_toArray, List.set_cons_zero, List.set_cons_succ]) | (refine wpTree.take (yields_build' (Ms.plain m4).toArray (by rfl) 42 [(0, _), (1, _), (6, _)] rfl R4.out) ?_; simp only [Act.put, List.setIfInBounds_toArray, List.set_cons_zero, List.set_cons_succ]) | (refine wpTree.take (yields_build' (Ms.plain m5).toArray (by rfl) 42 [(0, _), (1, _), (2, _)] rfl R5.out) ?_; simp only [Act.put, List.setIfInBounds_toArray, List.set_cons_zero, List.set_cons_succ]) | (refine wpTree.take (v := ?_) (Or.inl ⟨by rfl, ?_⟩) ?_; rotate_left; (focus (intro _ hS; (try dsimp only at hS); go_split_ands; (try subst hS); go_simp; (try (with_reducible rfl)); done)); simp only [Act.put, List.setIfInBounds_toArray, List.set_cons_zero, List.set_cons_succ])))
  refine wpTree.one (fun K hK => ?_)
  go_simp
  go_at_call 9
  refine (C1.out _).mono ?_
  rintro e u2 ⟨rfl, hbu2⟩
  have hBelow := Below.trans hHeld (hbu2.mono (Below.size hHeld))
  refine hK.out _ _ hBelow (fun hHeld' => ?_)
  clear hK K hHeld hbu2 hBelow
  have hHeld := hHeld'
  clear hHeld'
  refine wpTree.one (fun K hK => ?_)
  go_simp
  go_at_call 8
  refine (of23_any m1 _).mono ?_
  rintro e u3 ⟨rfl, hbu3⟩
  have hBelow := Below.trans hHeld (hbu3.mono (Below.size hHeld))
  refine hK.out _ _ hBelow (fun hHeld' => ?_)
  clear hK K hHeld hbu3 hBelow
  have hHeld := hHeld'
  clear hHeld'
  refine wpTree.one (fun K hK => ?_)
  go_simp
  go_at_call 10
  refine (as5_any l _).mono ?_
  rintro e u4 ⟨rfl, hbu4⟩
  have hBelow := Below.trans hHeld (hbu4.mono (Below.size hHeld))
  refine hK.out _ _ hBelow (fun hHeld' => ?_)
  clear hK K hHeld hbu4 hBelow
  have hHeld := hHeld'
  clear hHeld'
  (try simp only [Act.put, List.setIfInBounds_toArray, List.set_cons_zero, List.set_cons_succ])
  refine wpTree.take (yields_build' (Ms.plain m1).toArray (by rfl) 42 [(0, _), (5, _)] rfl R1.out) ?_
  (try simp only [Act.put, List.setIfInBounds_toArray, List.set_cons_zero, List.set_cons_succ])
  (repeat (first | (refine wpTree.take (v := undef) (Or.inr ⟨by rfl, rfl⟩) ?_; simp only [Act.put, List.setIfInBounds_toArray, List.set_cons_zero, List.set_cons_succ]) | (refine wpTree.take (v := .agg (Lab.cells ?_).toArray) (yieldsIf_load_mid rfl 27 _ rfl _ _ rfl (Lab.cells _) _ ?_ Try.underlying27 rfl (linfo _)) ?_; rotate_left; (focus (intro _ hS; refine range_next hS ?_; assumption)); simp only [Act.put, List.setIfInBounds_toArray, List.set_cons_zero, List.set_cons_succ]) | (refine wpTree.take (v := .agg (Ev.item ?_).toArray) (yieldsIf_load_mid rfl 31 _ rfl _ _ rfl (Ev.item _) _ ?_ Try.underlying31 rfl (iinfo _)) ?_; rotate_left; (focus (intro _ hS; refine range_next hS ?_; assumption)); simp only [Act.put, List.setIfInBounds_toArray, List.set_cons_zero, List.set_cons_succ]) | (refine wpTree.take (v := .agg (Ev.item ?_).toArray) (yieldsIf_load_mid rfl 37 _ rfl _ _ rfl (Ev.item _) _ ?_ Try.underlying37 rfl (einfoL6 _)) ?_; rotate_left; (focus (intro _ hS; refine range_next hS ?_; assumption)); simp only [Act.put, List.setIfInBounds_toArray, List.set_cons_zero, List.set_cons_succ]) | (refine wpTree.take (v := .agg (St.cells ?_).toArray) (yieldsIf_load_mid rfl 33 _ rfl _ _ rfl (St.cells _) _ ?_ Try.underlying33 rfl (stinfo _)) ?_; rotate_left; (focus (intro _ hS; refine range_next hS ?_; assumption)); simp only [Act.put, List.setIfInBounds_toArray, List.set_cons_zero, List.set_cons_succ]) | (refine wpTree.take (yields_build' (Ms.plain m2).toArray (by rfl) 42 [(0, _), (6, _)] rfl R2.out) ?_; simp only [Act.put, List.setIfInBounds_toArray, List.set_cons_zero, List.set_cons_succ]) | (refine wpTree.take (yields_build' (Ms.plain m3).toArray (by rfl) 42 [(0, _), (6, _)] rfl R3.out) ?_; simp only [Act.put, List.setIfInBounds_toArray, List.set_cons_zero, List.set_cons_succ]) | (refine wpTree.take (yields_build' (Ms.plain m4).toArray (by rfl) 42 [(0, _), (1, _), (6, _)] rfl R4.out) ?_; simp only [Act.put, List.setIfInBounds_toArray, List.set_cons_zero, List.set_cons_succ]) | (refine wpTree.take (yields_build' (Ms.plain m5).toArray (by rfl) 42 [(0, _), (1, _), (2, _)] rfl R5.out) ?_; simp only [Act.put, List.setIfInBounds_toArray, List.set_cons_zero, List.set_cons_succ]) | (refine wpTree.take (v := ?_) (Or.inl ⟨by rfl, ?_⟩) ?_; rotate_left; (focus (intro _ hS; (try dsimp only at hS); go_split_ands; (try subst hS); go_simp; (try (with_reducible rfl)); done)); simp only [Act.put, List.setIfInBounds_toArray, List.set_cons_zero, List.set_cons_succ])))
  refine wpTree.one (fun K hK => ?_)
  go_simp
  go_at_call 12
  refine (itemevent_any x _).mono ?_
  rintro e u5 ⟨rfl, hbu5⟩
  have hBelow := Below.trans hHeld (hbu5.mono (Below.size hHeld))
  refine hK.out _ _ hBelow (fun hHeld' => ?_)
  clear hK K hHeld hbu5 hBelow
  have hHeld := hHeld'
  clear hHeld'
  refine wpTree.one (fun K hK => ?_)
  go_simp
  go_at_call 11
  refine (C2.out _).mono ?_
  rintro e u6 ⟨rfl, hbu6⟩
  have hBelow := Below.trans hHeld (hbu6.mono (Below.size hHeld))
  refine hK.out _ _ hBelow (fun hHeld' => ?_)
  clear hK K hHeld hbu6 hBelow
  have hHeld := hHeld'
  clear hHeld'
  refine wpTree.one (fun K hK => ?_)
  go_simp
  go_at_call 8
  refine (of23_any m2 _).mono ?_
  rintro e u7 ⟨rfl, hbu7⟩
  have hBelow := Below.trans hHeld (hbu7.mono (Below.size hHeld))
  refine hK.out _ _ hBelow (fun hHeld' => ?_)
  clear hK K hHeld hbu7 hBelow
  have hHeld := hHeld'
  clear hHeld'
  (repeat (first | (refine wpTree.take (v := undef) (Or.inr ⟨by rfl, rfl⟩) ?_; simp only [Act.put, List.setIfInBounds_toArray, List.set_cons_zero, List.set_cons_succ]) | (refine wpTree.take (v := .agg (Lab.cells ?_).toArray) (yieldsIf_load_mid rfl 27 _ rfl _ _ rfl (Lab.cells _) _ ?_ Try.underlying27 rfl (linfo _)) ?_; rotate_left; (focus (intro _ hS; refine range_next hS ?_; assumption)); simp only [Act.put, List.setIfInBounds_toArray, List.set_cons_zero, List.set_cons_succ]) | (refine wpTree.take (v := .agg (Ev.item ?_).toArray) (yieldsIf_load_mid rfl 31 _ rfl _ _ rfl (Ev.item _) _ ?_ Try.underlying31 rfl (iinfo _)) ?_; rotate_left; (focus (intro _ hS; refine range_next hS ?_; assumption)); simp only [Act.put, List.setIfInBounds_toArray, List.set_cons_zero, List.set_cons_succ]) | (refine wpTree.take (v := .agg (Ev.item ?_).toArray) (yieldsIf_load_mid rfl 37 _ rfl _ _ rfl (Ev.item _) _ ?_ Try.underlying37 rfl (einfoL6 _)) ?_; rotate_left; (focus (intro _ hS; refine range_next hS ?_; assumption)); simp only [Act.put, List.setIfInBounds_toArray, List.set_cons_zero, List.set_cons_succ]) | (refine wpTree.take (v := .agg (St.cells ?_).toArray) (yieldsIf_load_mid rfl 33 _ rfl _ _ rfl (St.cells _) _ ?_ Try.underlying33 rfl (stinfo _)) ?_; rotate_left; (focus (intro _ hS; refine range_next hS ?_; assumption)); simp only [Act.put, List.setIfInBounds_toArray, List.set_cons_zero, List.set_cons_succ]) | (refine wpTree.take (yields_build' (Ms.plain m2).toArray (by rfl) 42 [(0, _), (6, _)] rfl R2.out) ?_; simp only [Act.put, List.setIfInBounds_toArray, List.set_cons_zero, List.set_cons_succ]) | (refine wpTree.take (yields_build' (Ms.plain m3).toArray (by rfl) 42 [(0, _), (6, _)] rfl R3.out) ?_; simp only [Act.put, List.setIfInBounds_toArray, List.set_cons_zero, List.set_cons_succ]) | (refine wpTree.take (yields_build' (Ms.plain m4).toArray (by rfl) 42 [(0, _), (1, _), (6, _)] rfl R4.out) ?_; simp only [Act.put, List.setIfInBounds_toArray, List.set_cons_zero, List.set_cons_succ]) | (refine wpTree.take (yields_build' (Ms.plain m5).toArray (by rfl) 42 [(0, _), (1, _), (2, _)] rfl R5.out) ?_; simp only [Act.put, List.setIfInBounds_toArray, List.set_cons_zero, List.set_cons_succ]) | (refine wpTree.take (v := ?_) (Or.inl ⟨by rfl, ?_⟩) ?_; rotate_left; (focus (intro _ hS; (try dsimp only at hS); go_split_ands; (try subst hS); go_simp; (try (with_reducible rfl)); done)); simp only [Act.put, List.setIfInBounds_toArray, List.set_cons_zero, List.set_cons_succ])))
  refine wpTree.one (fun K hK => ?_)
  go_simp
  go_at_call 12
  refine (itemevent_any x _).mono ?_
  rintro e u8 ⟨rfl, hbu8⟩
  have hBelow := Below.trans hHeld (hbu8.mono (Below.size hHeld))
  refine hK.out _ _ hBelow (fun hHeld' => ?_)
  clear hK K hHeld hbu8 hBelow
  have hHeld := hHeld'
  clear hHeld'
  refine wpTree.one (fun K hK => ?_)
  go_simp
  go_at_call 13
  refine (C3.out _).mono ?_
  rintro e u9 ⟨rfl, hbu9⟩
  have hBelow := Below.trans hHeld (hbu9.mono (Below.size hHeld))
  refine hK.out _ _ hBelow (fun hHeld' => ?_)
  clear hK K hHeld hbu9 hBelow
  have hHeld := hHeld'
  clear hHeld'
  refine wpTree.one (fun K hK => ?_)
  go_simp
  go_at_call 8
  refine (of23_any m3 _).mono ?_
  rintro e u10 ⟨rfl, hbu10⟩
  have hBelow := Below.trans hHeld (hbu10.mono (Below.size hHeld))
  refine hK.out _ _ hBelow (fun hHeld' => ?_)
  clear hK K hHeld hbu10 hBelow
  have hHeld := hHeld'
  clear hHeld'
  (repeat (first | (refine wpTree.take (v := undef) (Or.inr ⟨by rfl, rfl⟩) ?_; simp only [Act.put, List.setIfInBounds_toArray, List.set_cons_zero, List.set_cons_succ]) | (refine wpTree.take (v := .agg (Lab.cells ?_).toArray) (yieldsIf_load_mid rfl 27 _ rfl _ _ rfl (Lab.cells _) _ ?_ Try.underlying27 rfl (linfo _)) ?_; rotate_left; (focus (intro _ hS; refine range_next hS ?_; assumption)); simp only [Act.put, List.setIfInBounds_toArray, List.set_cons_zero, List.set_cons_succ]) | (refine wpTree.take (v := .agg (Ev.item ?_).toArray) (yieldsIf_load_mid rfl 31 _ rfl _ _ rfl (Ev.item _) _ ?_ Try.underlying31 rfl (iinfo _)) ?_; rotate_left; (focus (intro _ hS; refine range_next hS ?_; assumption)); simp only [Act.put, List.setIfInBounds_toArray, List.set_cons_zero, List.set_cons_succ]) | (refine wpTree.take (v := .agg (Ev.item ?_).toArray) (yieldsIf_load_mid rfl 37 _ rfl _ _ rfl (Ev.item _) _ ?_ Try.underlying37 rfl (einfoL6 _)) ?_; rotate_left; (focus (intro _ hS; refine range_next hS ?_; assumption)); simp only [Act.put, List.setIfInBounds_toArray, List.set_cons_zero, List.set_cons_succ]) | (refine wpTree.take (v := .agg (St.cells ?_).toArray) (yieldsIf_load_mid rfl 33 _ rfl _ _ rfl (St.cells _) _ ?_ Try.underlying33 rfl (stinfo _)) ?_; rotate_left; (focus (intro _ hS; refine range_next hS ?_; assumption)); simp only [Act.put, List.setIfInBounds_toArray, List.set_cons_zero, List.set_cons_succ]) | (refine wpTree.take (yields_build' (Ms.plain m2).toArray (by rfl) 42 [(0, _), (6, _)] rfl R2.out) ?_; simp only [Act.put, List.setIfInBounds_toArray, List.set_cons_zero, List.set_cons_succ]) | (refine wpTree.take (yields_build' (Ms.plain m3).toArray (by rfl) 42 [(0, _), (6, _)] rfl R3.out) ?_; simp only [Act.put, List.setIfInBounds_toArray, List.set_cons_zero, List.set_cons_succ]) | (refine wpTree.take (yields_build' (Ms.plain m4).toArray (by rfl) 42 [(0, _), (1, _), (6, _)] rfl R4.out) ?_; simp only [Act.put, List.setIfInBounds_toArray, List.set_cons_zero, List.set_cons_succ]) | (refine wpTree.take (yields_build' (Ms.plain m5).toArray (by rfl) 42 [(0, _), (1, _), (2, _)] rfl R5.out) ?_; simp only [Act.put, List.setIfInBounds_toArray, List.set_cons_zero, List.set_cons_succ]) | (refine wpTree.take (v := ?_) (Or.inl ⟨by rfl, ?_⟩) ?_; rotate_left; (focus (intro _ hS; (try dsimp only at hS); go_split_ands; (try subst hS); go_simp; (try (with_reducible rfl)); done)); simp only [Act.put, List.setIfInBounds_toArray, List.set_cons_zero, List.set_cons_succ])))
  refine wpTree.one (fun K hK => ?_)
  go_simp
  go_at_call 14
  refine (C4.out _).mono ?_
  rintro e u11 ⟨rfl, hbu11⟩
  have hBelow := Below.trans hHeld (hbu11.mono (Below.size hHeld))
  refine hK.out _ _ hBelow (fun hHeld' => ?_)
  clear hK K hHeld hbu11 hBelow
  have hHeld := hHeld'
  clear hHeld'
  refine wpTree.one (fun K hK => ?_)
  go_simp
  go_at_call 8
  refine (of23_any m4 _).mono ?_
  rintro e u12 ⟨rfl, hbu12⟩
  have hBelow := Below.trans hHeld (hbu12.mono (Below.size hHeld))
  refine hK.out _ _ hBelow (fun hHeld' => ?_)
  clear hK K hHeld hbu12 hBelow
  have hHeld := hHeld'
  clear hHeld'
  (repeat (first | (refine wpTree.take (v := undef) (Or.inr ⟨by rfl, rfl⟩) ?_; simp only [Act.put, List.setIfInBounds_toArray, List.set_cons_zero, List.set_cons_succ]) | (refine wpTree.take (v := .agg (Lab.cells ?_).toArray) (yieldsIf_load_mid rfl 27 _ rfl _ _ rfl (Lab.cells _) _ ?_ Try.underlying27 rfl (linfo _)) ?_; rotate_left; (focus (intro _ hS; refine range_next hS ?_; assumption)); simp only [Act.put, List.setIfInBounds_toArray, List.set_cons_zero, List.set_cons_succ]) | (refine wpTree.take (v := .agg (Ev.item ?_).toArray) (yieldsIf_load_mid rfl 31 _ rfl _ _ rfl (Ev.item _) _ ?_ Try.underlying31 rfl (iinfo _)) ?_; rotate_left; (focus (intro _ hS; refine range_next hS ?_; assumption)); simp only [Act.put, List.setIfInBounds_toArray, List.set_cons_zero, List.set_cons_succ]) | (refine wpTree.take (v := .agg (Ev.item ?_).toArray) (yieldsIf_load_mid rfl 37 _ rfl _ _ rfl (Ev.item _) _ ?_ Try.underlying37 rfl (einfoL6 _)) ?_; rotate_left; (focus (intro _ hS; refine range_next hS ?_; assumption)); simp only [Act.put, List.setIfInBounds_toArray, List.set_cons_zero, List.set_cons_succ]) | (refine wpTree.take (v := .agg (St.cells ?_).toArray) (yieldsIf_load_mid rfl 33 _ rfl _ _ rfl (St.cells _) _ ?_ Try.underlying33 rfl (stinfo _)) ?_; rotate_left; (focus (intro _ hS; refine range_next hS ?_; assumption)); simp only [Act.put, List.setIfInBounds_toArray, List.set_cons_zero, List.set_cons_succ]) | (refine wpTree.take (yields_build' (Ms.plain m2).toArray (by rfl) 42 [(0, _), (6, _)] rfl R2.out) ?_; simp only [Act.put, List.setIfInBounds_toArray, List.set_cons_zero, List.set_cons_succ]) | (refine wpTree.take (yields_build' (Ms.plain m3).toArray (by rfl) 42 [(0, _), (6, _)] rfl R3.out) ?_; simp only [Act.put, List.setIfInBounds_toArray, List.set_cons_zero, List.set_cons_succ]) | (refine wpTree.take (yields_build' (Ms.plain m4).toArray (by rfl) 42 [(0, _), (1, _), (6, _)] rfl R4.out) ?_; simp only [Act.put, List.setIfInBounds_toArray, List.set_cons_zero, List.set_cons_succ]) | (refine wpTree.take (yields_build' (Ms.plain m5).toArray (by rfl) 42 [(0, _), (1, _), (2, _)] rfl R5.out) ?_; simp only [Act.put, List.setIfInBounds_toArray, List.set_cons_zero, List.set_cons_succ]) | (refine wpTree.take (v := ?_) (Or.inl ⟨by rfl, ?_⟩) ?_; rotate_left; (focus (intro _ hS; (try dsimp only at hS); go_split_ands; (try subst hS); go_simp; (try (with_reducible rfl)); done)); simp only [Act.put, List.setIfInBounds_toArray, List.set_cons_zero, List.set_cons_succ])))
  refine wpTree.one (fun K hK => ?_)
  go_simp
  go_at_call 15
  refine (C5.out _).mono ?_
  rintro e u13 ⟨rfl, hbu13⟩
  have hBelow := Below.trans hHeld (hbu13.mono (Below.size hHeld))
  refine hK.out _ _ hBelow (fun hHeld' => ?_)
  clear hK K hHeld hbu13 hBelow
  have hHeld := hHeld'
  clear hHeld'
  refine wpTree.one (fun K hK => ?_)
  go_simp
  go_at_call 8
  refine (of23_any m5 _).mono ?_
  rintro e u14 ⟨rfl, hbu14⟩
  have hBelow := Below.trans hHeld (hbu14.mono (Below.size hHeld))
  refine hK.out _ _ hBelow (fun hHeld' => ?_)
  clear hK K hHeld hbu14 hBelow
  have hHeld := hHeld'
  clear hHeld'
  (repeat (first | (refine wpTree.take (v := undef) (Or.inr ⟨by rfl, rfl⟩) ?_; simp only [Act.put, List.setIfInBounds_toArray, List.set_cons_zero, List.set_cons_succ]) | (refine wpTree.take (v := .agg (Lab.cells ?_).toArray) (yieldsIf_load_mid rfl 27 _ rfl _ _ rfl (Lab.cells _) _ ?_ Try.underlying27 rfl (linfo _)) ?_; rotate_left; (focus (intro _ hS; refine range_next hS ?_; assumption)); simp only [Act.put, List.setIfInBounds_toArray, List.set_cons_zero, List.set_cons_succ]) | (refine wpTree.take (v := .agg (Ev.item ?_).toArray) (yieldsIf_load_mid rfl 31 _ rfl _ _ rfl (Ev.item _) _ ?_ Try.underlying31 rfl (iinfo _)) ?_; rotate_left; (focus (intro _ hS; refine range_next hS ?_; assumption)); simp only [Act.put, List.setIfInBounds_toArray, List.set_cons_zero, List.set_cons_succ]) | (refine wpTree.take (v := .agg (Ev.item ?_).toArray) (yieldsIf_load_mid rfl 37 _ rfl _ _ rfl (Ev.item _) _ ?_ Try.underlying37 rfl (einfoL6 _)) ?_; rotate_left; (focus (intro _ hS; refine range_next hS ?_; assumption)); simp only [Act.put, List.setIfInBounds_toArray, List.set_cons_zero, List.set_cons_succ]) | (refine wpTree.take (v := .agg (St.cells ?_).toArray) (yieldsIf_load_mid rfl 33 _ rfl _ _ rfl (St.cells _) _ ?_ Try.underlying33 rfl (stinfo _)) ?_; rotate_left; (focus (intro _ hS; refine range_next hS ?_; assumption)); simp only [Act.put, List.setIfInBounds_toArray, List.set_cons_zero, List.set_cons_succ]) | (refine wpTree.take (yields_build' (Ms.plain m2).toArray (by rfl) 42 [(0, _), (6, _)] rfl R2.out) ?_; simp only [Act.put, List.setIfInBounds_toArray, List.set_cons_zero, List.set_cons_succ]) | (refine wpTree.take (yields_build' (Ms.plain m3).toArray (by rfl) 42 [(0, _), (6, _)] rfl R3.out) ?_; simp only [Act.put, List.setIfInBounds_toArray, List.set_cons_zero, List.set_cons_succ]) | (refine wpTree.take (yields_build' (Ms.plain m4).toArray (by rfl) 42 [(0, _), (1, _), (6, _)] rfl R4.out) ?_; simp only [Act.put, List.setIfInBounds_toArray, List.set_cons_zero, List.set_cons_succ]) | (refine wpTree.take (yields_build' (Ms.plain m5).toArray (by rfl) 42 [(0, _), (1, _), (2, _)] rfl R5.out) ?_; simp only [Act.put, List.setIfInBounds_toArray, List.set_cons_zero, List.set_cons_succ]) | (refine wpTree.take (v := ?_) (Or.inl ⟨by rfl, ?_⟩) ?_; rotate_left; (focus (intro _ hS; (try dsimp only at hS); go_split_ands; (try subst hS); go_simp; (try (with_reducible rfl)); done)); simp only [Act.put, List.setIfInBounds_toArray, List.set_cons_zero, List.set_cons_succ])))
  refine wpTree.one (fun K hK => ?_)
  go_simp
  go_at_call 16
  refine (C6.out _).mono ?_
  rintro e u15 ⟨rfl, hbu15⟩
  have hBelow := Below.trans hHeld (hbu15.mono (Below.size hHeld))
  refine hK.out _ _ hBelow (fun hHeld' => ?_)
  clear hK K hHeld hbu15 hBelow
  have hHeld := hHeld'
  clear hHeld'
  refine wpTree.one (fun K hK => ?_)
  go_simp
  go_at_call 8
  refine (of23_any m6 _).mono ?_
  rintro e u16 ⟨rfl, hbu16⟩
  have hBelow := Below.trans hHeld (hbu16.mono (Below.size hHeld))
  refine hK.out _ _ hBelow (fun hHeld' => ?_)
  clear hK K hHeld hbu16 hBelow
  have hHeld := hHeld'
  clear hHeld'
  refine wpTree.one (fun K hK => ?_)
  go_simp
  go_at_call 17
  refine (as11_any s _).mono ?_
  rintro e u17 ⟨rfl, hbu17⟩
  have hBelow := Below.trans hHeld (hbu17.mono (Below.size hHeld))
  refine hK.out _ _ hBelow (fun hHeld' => ?_)
  clear hK K hHeld hbu17 hBelow
  have hHeld := hHeld'
  clear hHeld'
  (try simp only [Act.put, List.setIfInBounds_toArray, List.set_cons_zero, List.set_cons_succ])
  refine wpTree.take (yields_build' (Ms.plain m6).toArray (by rfl) 42 [(0, _), (3, _), (4, _), (7, _)] rfl R6.out) ?_
  (try simp only [Act.put, List.setIfInBounds_toArray, List.set_cons_zero, List.set_cons_succ])
  (repeat (first | (refine wpTree.take (v := undef) (Or.inr ⟨by rfl, rfl⟩) ?_; simp only [Act.put, List.setIfInBounds_toArray, List.set_cons_zero, List.set_cons_succ]) | (refine wpTree.take (v := .agg (Lab.cells ?_).toArray) (yieldsIf_load_mid rfl 27 _ rfl _ _ rfl (Lab.cells _) _ ?_ Try.underlying27 rfl (linfo _)) ?_; rotate_left; (focus (intro _ hS; refine range_next hS ?_; assumption)); simp only [Act.put, List.setIfInBounds_toArray, List.set_cons_zero, List.set_cons_succ]) | (refine wpTree.take (v := .agg (Ev.item ?_).toArray) (yieldsIf_load_mid rfl 31 _ rfl _ _ rfl (Ev.item _) _ ?_ Try.underlying31 rfl (iinfo _)) ?_; rotate_left; (focus (intro _ hS; refine range_next hS ?_; assumption)); simp only [Act.put, List.setIfInBounds_toArray, List.set_cons_zero, List.set_cons_succ]) | (refine wpTree.take (v := .agg (Ev.item ?_).toArray) (yieldsIf_load_mid rfl 37 _ rfl _ _ rfl (Ev.item _) _ ?_ Try.underlying37 rfl (einfoL6 _)) ?_; rotate_left; (focus (intro _ hS; refine range_next hS ?_; assumption)); simp only [Act.put, List.setIfInBounds_toArray, List.set_cons_zero, List.set_cons_succ]) | (refine wpTree.take (v := .agg (St.cells ?_).toArray) (yieldsIf_load_mid rfl 33 _ rfl _ _ rfl (St.cells _) _ ?_ Try.underlying33 rfl (stinfo _)) ?_; rotate_left; (focus (intro _ hS; refine range_next hS ?_; assumption)); simp only [Act.put, List.setIfInBounds_toArray, List.set_cons_zero, List.set_cons_succ]) | (refine wpTree.take (yields_build' (Ms.plain m2).toArray (by rfl) 42 [(0, _), (6, _)] rfl R2.out) ?_; simp only [Act.put, List.setIfInBounds_toArray, List.set_cons_zero, List.set_cons_succ]) | (refine wpTree.take (yields_build' (Ms.plain m3).toArray (by rfl) 42 [(0, _), (6, _)] rfl R3.out) ?_; simp only [Act.put, List.setIfInBounds_toArray, List.set_cons_zero, List.set_cons_succ]) | (refine wpTree.take (yields_build' (Ms.plain m4).toArray (by rfl) 42 [(0, _), (1, _), (6, _)] rfl R4.out) ?_; simp only [Act.put, List.setIfInBounds_toArray, List.set_cons_zero, List.set_cons_succ]) | (refine wpTree.take (yields_build' (Ms.plain m5).toArray (by rfl) 42 [(0, _), (1, _), (2, _)] rfl R5.out) ?_; simp only [Act.put, List.setIfInBounds_toArray, List.set_cons_zero, List.set_cons_succ]) | (refine wpTree.take (v := ?_) (Or.inl ⟨by rfl, ?_⟩) ?_; rotate_left; (focus (intro _ hS; (try dsimp only at hS); go_split_ands; (try subst hS); go_simp; (try (with_reducible rfl)); done)); simp only [Act.put, List.setIfInBounds_toArray, List.set_cons_zero, List.set_cons_succ])))
  refine wpTree.done ?_
  have HF := Lib.hid (H4.out.trans (hHeld.mono H4.out.size))
  clear hHeld r1 r2 r3 r4 r5 e1 e2 e3 e4 e5 e6
  go_wp2_with fail
  go_ret
  exact ⟨rfl, HF.out⟩
section
variable {H : Type} {enc : TypeId × Value → H} {w : World}
set_option maxRecDepth 100000 in
theorem open_stV {r : Reach} {b0 base : Nat} {sp : Nat → Bool} {hd : Bool} {v : Value} {d : DataW H} {p : List MemPlace} (hv : Value.okWide Try.prog w r b0 33 v) (h : DataW.Trod enc Try.prog w base sp hd 33 v d p) :
    ∃ m : St, v = .agg m.cells.toArray ∧ St.Ok m := by
  obtain ⟨cs, rfl, _⟩ := okWide_struct Try.underlying33 hv
  obtain ⟨fuel, hf⟩ := h
  obtain ⟨l, e, hok⟩ := open_stM hf
  exact ⟨l, by rw [← e]; rfl, hok⟩
end
end Mg
open Mg

set_option maxRecDepth 100000 in
theorem msgmakes_lifted (os : Os) (started : os.Started) (H : Type) (enc : TypeId × Value → H) :
    ReturnsInHanded {} Try.checked os 3 .any (Rows.msgMakesSpec.pre6 enc Try.prog Try.f3 Rows.msgMakesRow.domain false) (Rows.msgMakesSpec.post enc Try.prog Try.f3 false true false false) := by
  refine law_lift (C := Try.checked) own_knob started (by kernel_rfl) Try.func3 rfl Try.underlying4 laid_out (by kernel_rfl) rfl ?_
    (ChangeSpec.witness6 (enc := enc) (C := Try.checked) false ⟨#[], #[.agg #[.int .u64 0, .int .i64 0, .int .u32 0, .int .i64 0, .int .i64 0, .int .u32 0, .int .u32 0, .int .u32 0, .int .u32 0, .int .u32 0, .int .u32 0, .int .u32 0, .int .u32 0, .int .u32 0, .int .u32 0, .int .u32 0, .int .u32 0], .agg #[.int .u64 0, .int .i64 0, .int .u32 0, .int .i64 0, .int .i64 0, .int .u32 0, .int .u32 0, .int .u32 0, .int .u32 0, .int .u32 0, .int .u32 0, .int .u32 0, .int .u32 0, .int .u32 0, .int .u32 0, .int .u32 0, .int .u32 0, .int .i64 0, .int .i64 0, .int .i64 0, .int .u64 0], .int .i64 0, .int .i64 0, .int .i64 0, .agg #[.bool false, .int .u64 0, .int .u32 0, .int .u32 0, .int .u32 0, .int .u32 0, .int .u32 0, .int .u32 0, .int .u32 0, .int .u32 0, .int .u32 0, .int .u32 0, .int .u32 0, .int .u32 0]], []⟩ 8 (by kernel_rfl) (by kernel_rfl) (by kernel_rfl) (by kernel_rfl)) ?_
  · intro ds hds
    match ds, hds with
    | [_, _, _, _, _, _], _ => rfl
  intro W base args ds ps hval hA hlt hsz
  rw [Try.params3] at hA hval
  obtain ⟨v0, vs0, d0, ds0, p0, q0, hargs, rfl, rfl, h0, r0⟩ := trodAll_cons hA
  obtain ⟨v1, vs1, d1, ds1, p1, q1, rfl, rfl, rfl, h1, r1⟩ := trodAll_cons r0
  obtain ⟨v2, vs2, d2, ds2, p2, q2, rfl, rfl, rfl, h2, r2⟩ := trodAll_cons r1
  obtain ⟨v3, vs3, d3, ds3, p3, q3, rfl, rfl, rfl, h3, r3⟩ := trodAll_cons r2
  obtain ⟨v4, vs4, d4, ds4, p4, q4, rfl, rfl, rfl, h4, r4⟩ := trodAll_cons r3
  obtain ⟨v5, vs5, d5, ds5, p5, q5, rfl, rfl, rfl, h5, r5⟩ := trodAll_cons r4
  obtain ⟨rfl, rfl, rfl⟩ := trodAll_nil r5
  obtain rfl : args = #[v0, v1, v2, v3, v4, v5] := by cases args; simp_all
  obtain ⟨l, rfl, hl⟩ := open_lab (hval 0 27 v0 rfl rfl) h0
  obtain ⟨x, rfl, hx⟩ := open_item (hval 1 31 v1 rfl rfl) h1
  obtain ⟨a2, rfl, rfl, rfl, w2⟩ := open_int Try.underlying3 (hval 2 3 v2 rfl rfl) h2
  obtain ⟨a3, rfl, rfl, rfl, w3⟩ := open_int Try.underlying3 (hval 3 3 v3 rfl rfl) h3
  obtain ⟨a4, rfl, rfl, rfl, w4⟩ := open_int Try.underlying3 (hval 4 3 v4 rfl rfl) h4
  obtain ⟨s, rfl, hs⟩ := open_stV (hval 5 33 v5 rfl rfl) h5
  exact makes_walk l x a2 a3 a4 s W

theorem msgmakes_holds : Rows.MsgMakesSaid :=
  OpenClaim.holds_of_wide 3 Try.f3 rfl rfl rfl rfl rfl rfl rfl ⟨rfl, rfl, rfl, rfl, rfl⟩ rfl rfl rfl rfl rfl (by kernel_rfl) Try.func3 (by kernel_rfl)
    (of_decide_eq_true (by kernel_rfl)) (by unfold Func.isWrapper; first | (rw [if_pos (by decide +kernel)]; kernel_rfl) | (rw [if_neg (by decide +kernel)]; exact ⟨rfl, rfl⟩))
    (fun os started H enc _ => msgmakes_lifted os started H enc)


end Go.Proofs.Ytkigaclcmodjaaa

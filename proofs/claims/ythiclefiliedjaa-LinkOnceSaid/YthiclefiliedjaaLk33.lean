/-
link: a text comes.
-/
import Derived.Test.YthiclefiliedjaaLk32
namespace Go.Proofs.Ythiclefiliedjaa
open Go.RowKit
set_option linter.unusedSimpArgs false
set_option linter.unusedVariables false
namespace Lk
theorem info_th : ∃ i z, Try.prog.info? 60 = some i ∧ i.zero = some z ∧ i.size = 3 ∧ i.bytes = 32 ∧ z.cells.size = 3 := by
  have h : ((Try.prog.info? 60).bind fun i => i.zero.map fun z => (i.size, i.bytes, z.cells.size)) = some (3, 32, 3) := by kernel_rfl
  cases hi : Try.prog.info? 60 with
  | none => rw [hi] at h; cases h
  | some i =>
    rw [hi] at h
    simp only [Option.bind_some, Option.map_eq_some_iff, Prod.mk.injEq] at h
    obtain ⟨z, hz, h1, h2, h3⟩ := h
    exact ⟨i, z, rfl, hz, h1, h2, h3⟩
theorem step_app_str {ops : Array Oper} {o : Oper} {a : Act} {K : Act → World → Prop} {Q : Exit → Act → World → Prop} {E : Prop} (w : World) (hw : Region.wanted o (yielded ops a.tmps) = true) (s x : Operand)
    (ho : o.op = .call { callee := .builtin .append, args := #[s, x], argTypes := #[26, 26] }) (base : Nat)
    (v : Value) (n : Nat) (xs : List Value) (hs : a.eval s = v) (hown : w.ownsRow base 9 1 v n xs)
    (A : Option Addr) (m c : Nat) (news : List Value) (hx : a.eval x = .slice A m c) (hl : news.length = m) (hsrc : Src w A m news) (h1 : ∀ u ∈ news, u.oneCell' = true)
    (hbytes : n + m ≤ 100000) (hbase : base ≤ w.heap.size)
    (h : ∀ v' w', w'.ownsRow base 9 1 v' (n + m) (xs ++ news) → w.grownBy w' v.ownBlock → (v'.ownBlock = v.ownBlock ∨ v'.ownBlock = some w.heap.size) → K (a.put o.dst v') w') : if Region.wanted o (yielded ops a.tmps) = true then Oper.wp Try.prog o a w K Q else E := by
  rw [if_pos hw]
  obtain ⟨i, z, hi, hz, h2, h3, h4⟩ := info_str
  exact wp_append_src w s x 26 ho base 9 i z Try.underlying26 hi hz (by rw [h4, h2]) (by omega) v n xs hs (by rw [h2]; exact hown) A m c news hx (by rw [hl, h2, Nat.mul_one]) hsrc h1 (by unfold maxLen; omega) (by rw [h3]; omega) hbase (by rw [h2]; exact h)
theorem step_app_th {ops : Array Oper} {o : Oper} {a : Act} {K : Act → World → Prop} {Q : Exit → Act → World → Prop} {E : Prop} (w : World) (hw : Region.wanted o (yielded ops a.tmps) = true) (s x : Operand)
    (ho : o.op = .call { callee := .builtin .append, args := #[s, x], argTypes := #[54, 54] }) (base : Nat)
    (v : Value) (n : Nat) (xs : List Value) (hs : a.eval s = v) (hown : w.ownsRow base 60 3 v n xs)
    (A : Option Addr) (c : Nat) (news : List Value) (hx : a.eval x = .slice A 1 c) (hl : news.length = 3) (hsrc : Src w A 1 news) (h1 : ∀ u ∈ news, u.oneCell' = true)
    (hbytes : n ≤ 100000) (hbase : base ≤ w.heap.size)
    (h : ∀ v' w', w'.ownsRow base 60 3 v' (n + 1) (xs ++ news) → w.grownBy w' v.ownBlock → (v'.ownBlock = v.ownBlock ∨ v'.ownBlock = some w.heap.size) → K (a.put o.dst v') w') : if Region.wanted o (yielded ops a.tmps) = true then Oper.wp Try.prog o a w K Q else E := by
  rw [if_pos hw]
  obtain ⟨i, z, hi, hz, h2, h3, h4⟩ := info_th
  exact wp_append_src w s x 54 ho base 60 i z Try.underlying54 hi hz (by rw [h4, h2]) (by omega) v n xs hs (by rw [h2]; exact hown) A 1 c news hx (by rw [hl, h2]) hsrc h1 (by unfold maxLen; omega) (by rw [h3]; omega) hbase (by rw [h2]; exact h)
theorem th_ones (x : Th) : ∀ u ∈ x.cells, u.oneCell' = true := by
  intro u hu
  unfold Th.cells at hu
  simp at hu
  rcases hu with rfl | rfl | rfl <;> rfl
theorem Mt.takeK {W w w1 : World} {g d1 d2 : Nat} {l1 l2 : LS} {net : List Th} {sent tk : List (List Nat)} {vn vs vt : Value} (h : Mt W w g d1 d2 l1 l2 net sent tk vn vs vt) (hb : Below w.heap.size w w1) {gx : Nat} (hx : w.heap.size ≤ gx ∧ gx < w1.heap.size) (q : Nat) :
    Calls Try.prog 14 #[.pointer (some ⟨d2, 0, none⟩), .int .u64 (q : Nat)] w1 fun e w' => e = .returned (.tuple #[.bool (takeE l2 q).1, .int .i64 (takeE l2 q).2]) ∧ Mt W w' g d1 d2 l1 (l2.take q) net sent tk vn vs vt ∧ w'.heap[gx]? = w1.heap[gx]? := by
  obtain ⟨F, G, h1, h2, h3, h4, h5, h6⟩ := h.duo.symm
  refine (take_any w1 (h1.next hb) q).mono ?_
  rintro e w' ⟨rfl, k1, k2, k3⟩
  have hd := duo_turn (F' := F) (h2.next hb) h3 (h4.trans (hb.mono h4.size)) (h5.next hb) (h6.next hb) (k1.wider (fun k hk => ((h1.next hb).low k hk).2) (h1.next hb).base) k2
  exact ⟨rfl, (h.next hb).turn hd.1.symm hd.2, k2.2 gx hx.2 (fun hF => by have := (h1.low gx hF).2; omega)⟩
/-- What a text leaves that comes. -/
def ComeP (W : World) (g d1 d2 : Nat) (l1 l2 : LS) (net : List Th) (sent tk : List (List Nat)) (vs : Value) (w' : World) : Prop := ∃ vn vt, Mt W w' g d1 d2 l1 l2 net sent tk vn vs vt
theorem bstr_nil : Byt.bstr [] = ⟨#[]⟩ := by rw [Byt.bstr_lit]; rfl
set_option maxRecDepth 20000 in
set_option maxHeartbeats 4000000 in
theorem come_ahead {W w : World} {g d1 d2 : Nat} {l1 l2 : LS} {net : List Th} {sent tk : List (List Nat)} {vn vs vt : Value} (h : Mt W w g d1 d2 l1 l2 net sent tk vn vs vt) (q : Nat) (bs : List Nat) (hr : takeE l2 q = (false, 14)) (E1 : Nat) (hE : (l2.take q).ex = E1 + 1) (hE2 : E1 ≤ 100000) (hn : net.length ≤ 400) (ht : tk.length ≤ 1000) :
    Calls Try.prog 22 #[.pointer (some ⟨g, 0, none⟩), .agg (Th.cells ⟨false, q, bs⟩).toArray] w fun e w' => e = .returned (.bool true) ∧ ComeP W g d1 d2 l1 (l2.take q) net sent tk vs w' := by
  obtain ⟨w1, hw1⟩ : ∃ w1, w1 = w.alloc (.cells (Th.cells ⟨false, q, bs⟩).toArray 60) := ⟨_, rfl⟩
  have hb1 : Below w.heap.size w w1 := by rw [hw1]; exact (Below.refl _ _).alloc (Nat.le_refl _) _
  have hx : Blk w1 w.heap.size 60 (Th.cells ⟨false, q, bs⟩).toArray := by rw [hw1]; exact Blk.new _ _ _
  have x0 : w1.cell? ⟨w.heap.size, 0, none⟩ = some (.bool false) := hx.cell 0
  have x1 : w1.cell? ⟨w.heap.size, 1, none⟩ = some (.int .u64 (q : Nat)) := hx.cell 1
  have c1 : w1.cell? ⟨g, 1, none⟩ = some (.pointer (some ⟨d2, 0, none⟩)) := (h.next hb1).blk.cell 1
  have HK := Lib.hid (h.takeK (hb1.trans ((Below.refl w1.heap.size w1).drew.mono hb1.size)) (gx := w.heap.size) ⟨Nat.le_refl _, hx.lt⟩ q)
  rw [hr] at HK
  have HW := Lib.hid hw1
  have HX := Lib.hid hx
  have HN := Lib.hid (And.intro hn (And.intro ht (And.intro hE hE2)))
  obtain ⟨l3, hl3⟩ : ∃ l3, l3 = l2.take q := ⟨_, rfl⟩
  rw [← hl3] at HK HN ⊢
  obtain ⟨nl, hnl⟩ : ∃ nl, nl = net.length := ⟨_, rfl⟩
  have HNL := Lib.hid hnl
  clear h hr hE hE2 hn ht hb1 hx hw1 hl3 hnl
  go_enter Try.func22, Try.ntmps22
  go_upto_region 1 with fail
  rw [show w.alloc (.cells (Th.cells ⟨false, q, bs⟩).toArray 60) = w1 from HW.out.symm]
  go_upto_region 4 with fail
  refine wp_region_tree (S := (fun w' => w'.cell? ⟨g, 1, none⟩ = some (.pointer (some ⟨d2, 0, none⟩)))) (.take 0 (.take 1 (.take 2 (.take 3 (.take 4 (.one 5 (.one 6 (.take 7 (.take 8 (.take 9 (.take 10 (.take 11 .nil)))))))))))) 9999 (by kernel_rfl) (by kernel_rfl) (by kernel_rfl) (by kernel_rfl) (by kernel_rfl) (fun _ _ d _ _ h => by cases d <;> exact h) c1 (fun hHeld => ?_); simp only [Tree.map, List.getElem?_toArray, List.getElem?_cons_zero, List.getElem?_cons_succ]
  (repeat (first | (refine wpTree.take (v := undef) (Or.inr ⟨by rfl, rfl⟩) ?_; simp only [Act.put, List.setIfInBounds_toArray, List.set_cons_zero, List.set_cons_succ]) | (refine wpTree.take (v := ?_) (Or.inl ⟨by rfl, ?_⟩) ?_; rotate_left; (focus (intro _ hS; (try dsimp only at hS); go_split_ands; (try subst hS); go_simp; (try (with_reducible rfl)); done)); simp only [Act.put, List.setIfInBounds_toArray, List.set_cons_zero, List.set_cons_succ])))
  refine wpTree.one (fun K hK => ?_)
  go_simp
  refine hK.out _ _ hHeld (fun _ => ?_)
  clear hK K hHeld
  (try simp only [Act.put, List.setIfInBounds_toArray, List.set_cons_zero, List.set_cons_succ])
  refine wpTree.one (fun K hK => ?_)
  go_simp
  go_at_call 14
  refine HK.out.mono ?_
  rintro e w2 ⟨rfl, hM, hxk⟩
  have H2 := Lib.hid (And.intro hM (show Blk w2 w.heap.size 60 (Th.cells ⟨false, q, bs⟩).toArray from hxk.trans (HX.out.next (Below.refl _ _).drew)))
  refine hK.out _ _ (hM.blk.cell 1) (fun _ => ?_)
  clear hK K hM hxk x0 x1 c1 HK
  (try simp only [Act.put, List.setIfInBounds_toArray, List.set_cons_zero, List.set_cons_succ])
  (repeat (first | (refine wpTree.take (v := undef) (Or.inr ⟨by rfl, rfl⟩) ?_; simp only [Act.put, List.setIfInBounds_toArray, List.set_cons_zero, List.set_cons_succ]) | (refine wpTree.take (v := ?_) (Or.inl ⟨by rfl, ?_⟩) ?_; rotate_left; (focus (intro _ hS; (try dsimp only at hS); go_split_ands; (try subst hS); go_simp; (try (with_reducible rfl)); done)); simp only [Act.put, List.setIfInBounds_toArray, List.set_cons_zero, List.set_cons_succ])))
  refine wpTree.done ?_
  go_wp2_with fail
  go_ret
  exact ⟨rfl, vn, vt, H2.out.1⟩
set_option maxRecDepth 20000 in
set_option maxHeartbeats 4000000 in
theorem come_dup {W w : World} {g d1 d2 : Nat} {l1 l2 : LS} {net : List Th} {sent tk : List (List Nat)} {vn vs vt : Value} (h : Mt W w g d1 d2 l1 l2 net sent tk vn vs vt) (q : Nat) (bs : List Nat) (hr : takeE l2 q = (false, 0)) (E1 : Nat) (hE : (l2.take q).ex = E1 + 1) (hE2 : E1 ≤ 100000) (hn : net.length ≤ 400) (ht : tk.length ≤ 1000) (hlt : net.length < 400) :
    Calls Try.prog 22 #[.pointer (some ⟨g, 0, none⟩), .agg (Th.cells ⟨false, q, bs⟩).toArray] w fun e w' => e = .returned (.bool true) ∧ ComeP W g d1 d2 l1 (l2.take q) (net ++ [⟨true, E1, []⟩]) sent tk vs w' := by
  obtain ⟨w1, hw1⟩ : ∃ w1, w1 = w.alloc (.cells (Th.cells ⟨false, q, bs⟩).toArray 60) := ⟨_, rfl⟩
  have hb1 : Below w.heap.size w w1 := by rw [hw1]; exact (Below.refl _ _).alloc (Nat.le_refl _) _
  have hx : Blk w1 w.heap.size 60 (Th.cells ⟨false, q, bs⟩).toArray := by rw [hw1]; exact Blk.new _ _ _
  have x0 : w1.cell? ⟨w.heap.size, 0, none⟩ = some (.bool false) := hx.cell 0
  have x1 : w1.cell? ⟨w.heap.size, 1, none⟩ = some (.int .u64 (q : Nat)) := hx.cell 1
  have c1 : w1.cell? ⟨g, 1, none⟩ = some (.pointer (some ⟨d2, 0, none⟩)) := (h.next hb1).blk.cell 1
  have HK := Lib.hid (h.takeK (hb1.trans ((Below.refl w1.heap.size w1).drew.mono hb1.size)) (gx := w.heap.size) ⟨Nat.le_refl _, hx.lt⟩ q)
  rw [hr] at HK
  have HW := Lib.hid hw1
  have HX := Lib.hid hx
  have HN := Lib.hid (And.intro hn (And.intro ht (And.intro hE hE2)))
  obtain ⟨l3, hl3⟩ : ∃ l3, l3 = l2.take q := ⟨_, rfl⟩
  rw [← hl3] at HK HN ⊢
  obtain ⟨nl, hnl⟩ : ∃ nl, nl = net.length := ⟨_, rfl⟩
  have HNL := Lib.hid hnl
  obtain ⟨An, kn, rfl⟩ := own_shape h.on
  obtain ⟨At, kt, rfl⟩ := own_shape h.ot
  obtain ⟨X1, hX1⟩ : ∃ X1, X1 = E1 + 1 := ⟨_, rfl⟩
  have HXX := Lib.hid hX1
  clear hX1
  have HLT := Lib.hid (show nl < 400 by rw [hnl]; exact hlt)
  clear hlt
  clear h hr hE hE2 hn ht hb1 hx hw1 hl3 hnl
  go_enter Try.func22, Try.ntmps22
  go_upto_region 1 with fail
  rw [show w.alloc (.cells (Th.cells ⟨false, q, bs⟩).toArray 60) = w1 from HW.out.symm]
  go_upto_region 4 with fail
  refine wp_region_tree (S := (fun w' => w'.cell? ⟨g, 1, none⟩ = some (.pointer (some ⟨d2, 0, none⟩)))) (.take 0 (.take 1 (.take 2 (.take 3 (.take 4 (.one 5 (.one 6 (.take 7 (.take 8 (.take 9 (.take 10 (.take 11 .nil)))))))))))) 9999 (by kernel_rfl) (by kernel_rfl) (by kernel_rfl) (by kernel_rfl) (by kernel_rfl) (fun _ _ d _ _ h => by cases d <;> exact h) c1 (fun hHeld => ?_); simp only [Tree.map, List.getElem?_toArray, List.getElem?_cons_zero, List.getElem?_cons_succ]
  (repeat (first | (refine wpTree.take (v := undef) (Or.inr ⟨by rfl, rfl⟩) ?_; simp only [Act.put, List.setIfInBounds_toArray, List.set_cons_zero, List.set_cons_succ]) | (refine wpTree.take (v := ?_) (Or.inl ⟨by rfl, ?_⟩) ?_; rotate_left; (focus (intro _ hS; (try dsimp only at hS); go_split_ands; (try subst hS); go_simp; (try (with_reducible rfl)); done)); simp only [Act.put, List.setIfInBounds_toArray, List.set_cons_zero, List.set_cons_succ])))
  refine wpTree.one (fun K hK => ?_)
  go_simp
  refine hK.out _ _ hHeld (fun _ => ?_)
  clear hK K hHeld
  (try simp only [Act.put, List.setIfInBounds_toArray, List.set_cons_zero, List.set_cons_succ])
  refine wpTree.one (fun K hK => ?_)
  go_simp
  go_at_call 14
  refine HK.out.mono ?_
  rintro e w2 ⟨rfl, hM, hxk⟩
  have H2 := Lib.hid (And.intro hM (show Blk w2 w.heap.size 60 (Th.cells ⟨false, q, bs⟩).toArray from hxk.trans (HX.out.next (Below.refl _ _).drew)))
  refine hK.out _ _ (hM.blk.cell 1) (fun _ => ?_)
  clear hK K hM hxk x0 x1 c1 HK
  (try simp only [Act.put, List.setIfInBounds_toArray, List.set_cons_zero, List.set_cons_succ])
  (repeat (first | (refine wpTree.take (v := undef) (Or.inr ⟨by rfl, rfl⟩) ?_; simp only [Act.put, List.setIfInBounds_toArray, List.set_cons_zero, List.set_cons_succ]) | (refine wpTree.take (v := ?_) (Or.inl ⟨by rfl, ?_⟩) ?_; rotate_left; (focus (intro _ hS; (try dsimp only at hS); go_split_ands; (try subst hS); go_simp; (try (with_reducible rfl)); done)); simp only [Act.put, List.setIfInBounds_toArray, List.set_cons_zero, List.set_cons_succ])))
  refine wpTree.done ?_
  have H3 := Lib.hid H2.out.1
  have c2 : w2.cell? ⟨g, 2, none⟩ = some (.slice An nl kn) := by rw [HNL.out]; exact H3.out.blk.cell 2
  have c1 : w2.cell? ⟨g, 1, none⟩ = some (.pointer (some ⟨d2, 0, none⟩)) := H3.out.blk.cell 1
  have i1 : (nl : Int) < 400 := by have := HLT.out; omega
  go_upto_region 8 with fail
  clear i1
  have HEX := Lib.hid (show Calls Try.prog 18 #[.pointer (some ⟨d2, 0, none⟩)] w2.drew fun e w' => e = .returned (.int .u64 (X1 : Nat)) ∧ w2.drew = w' from by
    obtain ⟨F, hF⟩ := (H3.out.next (Below.refl _ _).drew).duo.two
    have hh := expect_any _ hF
    rw [show l3.ex = X1 by rw [HN.out.2.2.1, HXX.out]] at hh
    exact hh)
  have e1 : IntKind.u64.wrap ((X1 : Int) - 1) = (E1 : Nat) := by have := HN.out.2.2.2; have := HXX.out; rw [IntKind.wrap_u64]; omega
  have hcc : w2.cell? ⟨g, 1, none⟩ = some (.pointer (some ⟨d2, 0, none⟩)) ∧ w2.cell? ⟨g, 2, none⟩ = some (.slice An nl kn) := ⟨c1, c2⟩
  refine wp_region_treeL (S := (fun w' => w'.cell? ⟨g, 1, none⟩ = some (.pointer (some ⟨d2, 0, none⟩)) ∧ w'.cell? ⟨g, 2, none⟩ = some (.slice An nl kn))) (.take 0 (.take 1 (.take 2 (.take 3 (.take 4 (.take 5 (.take 6 (.take 7 (.take 8 (.one 9 (.take 10 (.take 11 (.one 12 (.one 13 (.take 14 (.take 15 (.last 16))))))))))))))))) 16 (by kernel_rfl) (by kernel_rfl) (by kernel_rfl) (by kernel_rfl) (by kernel_rfl) (fun _ _ d _ _ h => by cases d <;> exact h) hcc (fun hHeld => ?_); simp only [Tree.map, List.getElem?_toArray, List.getElem?_cons_zero, List.getElem?_cons_succ]
  (repeat (first | (refine wpTree.take (v := undef) (Or.inr ⟨by rfl, rfl⟩) ?_; simp only [Act.put, List.setIfInBounds_toArray, List.set_cons_zero, List.set_cons_succ]) | (refine wpTree.take (v := ?_) (Or.inl ⟨by rfl, ?_⟩) ?_; rotate_left; (focus (intro _ hS; (try dsimp only at hS); go_split_ands; (try subst hS); go_simp; (try (with_reducible rfl)); done)); simp only [Act.put, List.setIfInBounds_toArray, List.set_cons_zero, List.set_cons_succ])))
  refine wpTree.one (fun K hK => ?_)
  go_simp
  go_at_call 18
  refine HEX.out.mono ?_
  rintro e wx ⟨rfl, rfl⟩
  refine hK.out _ _ hHeld (fun _ => ?_)
  clear hK K HEX
  (try simp only [Act.put, List.setIfInBounds_toArray, List.set_cons_zero, List.set_cons_succ])
  (repeat (first | (refine wpTree.take (v := undef) (Or.inr ⟨by rfl, rfl⟩) ?_; simp only [Act.put, List.setIfInBounds_toArray, List.set_cons_zero, List.set_cons_succ]) | (refine wpTree.take (v := ?_) (Or.inl ⟨by rfl, ?_⟩) ?_; rotate_left; (focus (intro _ hS; (try dsimp only at hS); go_split_ands; (try subst hS); go_simp; (try (with_reducible rfl)); done)); simp only [Act.put, List.setIfInBounds_toArray, List.set_cons_zero, List.set_cons_succ])))
  clear e1
  have hb5 := ((Below.refl w2.heap.size w2).alloc (Nat.le_refl _) (.cells (Th.cells ⟨true, E1, []⟩).toArray 60)).drew
  have H5 := Lib.hid (H3.out.next hb5)
  have hs5 : Src (w2.alloc (.cells (Th.cells ⟨true, E1, []⟩).toArray 60)).drew (some ⟨w2.heap.size, 0, none⟩) 1 (Th.cells ⟨true, E1, []⟩) := Or.inl ⟨_, rfl, fun j u hj => by
    rw [add_plain, Nat.zero_add, (Blk.new w2 60 (Th.cells ⟨true, E1, []⟩).toArray).drew.cell, List.getElem?_toArray]; exact hj⟩
  have hcl : (Th.cells ⟨true, E1, []⟩).toArray = #[.bool true, .int .u64 (E1 : Nat), .string ⟨#[]⟩] := by unfold Th.cells; rw [bstr_nil]
  have hc5 : (w2.alloc (.cells (Th.cells ⟨true, E1, []⟩).toArray 60)).drew.cell? ⟨g, 1, none⟩ = some (.pointer (some ⟨d2, 0, none⟩)) ∧ (w2.alloc (.cells (Th.cells ⟨true, E1, []⟩).toArray 60)).drew.cell? ⟨g, 2, none⟩ = some (.slice An nl kn) := ⟨H5.out.blk.cell 1, by rw [HNL.out]; exact H5.out.blk.cell 2⟩
  obtain ⟨w5, hw5⟩ : ∃ w5, w5 = (w2.alloc (.cells (Th.cells ⟨true, E1, []⟩).toArray 60)).drew := ⟨_, rfl⟩
  rw [← hw5] at hs5 hc5 H5
  rw [hcl] at hw5
  refine wpTree.one (fun K hK => ?_)
  go_simp
  rw [← hw5]
  refine hK.out _ _ hc5 (fun _ => ?_)
  clear hK K hHeld hcl hw5 hc5 hb5
  (try simp only [Act.put, List.setIfInBounds_toArray, List.set_cons_zero, List.set_cons_succ])
  have hon : w5.ownsRow W.heap.size 60 3 (.slice An nl kn) nl (ths net) := by rw [HNL.out]; exact H5.out.on
  refine wpTree.one (fun K hK => ?_)
  refine step_app_th w5 (by rfl) _ _ rfl W.heap.size (.slice An nl kn) nl (ths net) rfl hon _ _ (Th.cells ⟨true, E1, []⟩) rfl rfl hs5 (th_ones _) (by have := HLT.out; omega) H5.out.b.size ?_
  intro v9 w9 hown hg hloc
  obtain ⟨A9, k9, rfl⟩ := slc_of hown
  have hb9 : Blk w9 g 56 #[.pointer (some ⟨d1, 0, none⟩), .pointer (some ⟨d2, 0, none⟩), .slice An nl kn, vs, .slice At tk.length kt] := by
    have hb0 := H5.out.blk
    have hgn := own_ne H5.out.on hb0 (by decide)
    rw [← HNL.out] at hb0 hgn
    exact (hg.block g H5.out.blk.lt hgn).trans hb0
  have c29 := hb9.cell 2
  have z29 := hb9.frozen 2
  refine hK.out _ _ ⟨hb9.cell 1, hb9.cell 2⟩ (fun _ => ?_)
  clear hK K hs5 hon c1 c2 hcc
  (try simp only [Act.put, List.setIfInBounds_toArray, List.set_cons_zero, List.set_cons_succ])
  (repeat (first | (refine wpTree.take (v := undef) (Or.inr ⟨by rfl, rfl⟩) ?_; simp only [Act.put, List.setIfInBounds_toArray, List.set_cons_zero, List.set_cons_succ]) | (refine wpTree.take (v := ?_) (Or.inl ⟨by rfl, ?_⟩) ?_; rotate_left; (focus (intro _ hS; (try dsimp only at hS); go_split_ands; (try subst hS); go_simp; (try (with_reducible rfl)); done)); simp only [Act.put, List.setIfInBounds_toArray, List.set_cons_zero, List.set_cons_succ])))
  have HEND := Lib.hid (H5.out.pushN ⟨true, E1, []⟩ (by rw [← HNL.out]; exact hown) (by rw [← HNL.out]; exact hg) (by rw [← HNL.out]; exact hloc))
  clear hown hg hloc hb9
  refine wpTree.last (fun K hK => ?_)
  go_simp
  refine hK.out _ _ ?_
  clear hK K
  (try simp only [Act.put, List.setIfInBounds_toArray, List.set_cons_zero, List.set_cons_succ])
  go_wp2_with fail
  go_ret
  exact ⟨rfl, _, _, HEND.out⟩
set_option maxRecDepth 20000 in
set_option maxHeartbeats 4000000 in
theorem come_dup_full {W w : World} {g d1 d2 : Nat} {l1 l2 : LS} {net : List Th} {sent tk : List (List Nat)} {vn vs vt : Value} (h : Mt W w g d1 d2 l1 l2 net sent tk vn vs vt) (q : Nat) (bs : List Nat) (hr : takeE l2 q = (false, 0)) (E1 : Nat) (hE : (l2.take q).ex = E1 + 1) (hE2 : E1 ≤ 100000) (hn : net.length ≤ 400) (ht : tk.length ≤ 1000) (hlt : net.length = 400) :
    Calls Try.prog 22 #[.pointer (some ⟨g, 0, none⟩), .agg (Th.cells ⟨false, q, bs⟩).toArray] w fun e w' => e = .returned (.bool true) ∧ ComeP W g d1 d2 l1 (l2.take q) net sent tk vs w' := by
  obtain ⟨w1, hw1⟩ : ∃ w1, w1 = w.alloc (.cells (Th.cells ⟨false, q, bs⟩).toArray 60) := ⟨_, rfl⟩
  have hb1 : Below w.heap.size w w1 := by rw [hw1]; exact (Below.refl _ _).alloc (Nat.le_refl _) _
  have hx : Blk w1 w.heap.size 60 (Th.cells ⟨false, q, bs⟩).toArray := by rw [hw1]; exact Blk.new _ _ _
  have x0 : w1.cell? ⟨w.heap.size, 0, none⟩ = some (.bool false) := hx.cell 0
  have x1 : w1.cell? ⟨w.heap.size, 1, none⟩ = some (.int .u64 (q : Nat)) := hx.cell 1
  have c1 : w1.cell? ⟨g, 1, none⟩ = some (.pointer (some ⟨d2, 0, none⟩)) := (h.next hb1).blk.cell 1
  have HK := Lib.hid (h.takeK (hb1.trans ((Below.refl w1.heap.size w1).drew.mono hb1.size)) (gx := w.heap.size) ⟨Nat.le_refl _, hx.lt⟩ q)
  rw [hr] at HK
  have HW := Lib.hid hw1
  have HX := Lib.hid hx
  have HN := Lib.hid (And.intro hn (And.intro ht (And.intro hE hE2)))
  obtain ⟨l3, hl3⟩ : ∃ l3, l3 = l2.take q := ⟨_, rfl⟩
  rw [← hl3] at HK HN ⊢
  obtain ⟨nl, hnl⟩ : ∃ nl, nl = net.length := ⟨_, rfl⟩
  have HNL := Lib.hid hnl
  obtain ⟨An, kn, rfl⟩ := own_shape h.on
  obtain ⟨At, kt, rfl⟩ := own_shape h.ot
  obtain ⟨X1, hX1⟩ : ∃ X1, X1 = E1 + 1 := ⟨_, rfl⟩
  have HXX := Lib.hid hX1
  clear hX1
  have HLT := Lib.hid (show nl = 400 by rw [hnl]; exact hlt)
  clear hlt
  clear h hr hE hE2 hn ht hb1 hx hw1 hl3 hnl
  go_enter Try.func22, Try.ntmps22
  go_upto_region 1 with fail
  rw [show w.alloc (.cells (Th.cells ⟨false, q, bs⟩).toArray 60) = w1 from HW.out.symm]
  go_upto_region 4 with fail
  refine wp_region_tree (S := (fun w' => w'.cell? ⟨g, 1, none⟩ = some (.pointer (some ⟨d2, 0, none⟩)))) (.take 0 (.take 1 (.take 2 (.take 3 (.take 4 (.one 5 (.one 6 (.take 7 (.take 8 (.take 9 (.take 10 (.take 11 .nil)))))))))))) 9999 (by kernel_rfl) (by kernel_rfl) (by kernel_rfl) (by kernel_rfl) (by kernel_rfl) (fun _ _ d _ _ h => by cases d <;> exact h) c1 (fun hHeld => ?_); simp only [Tree.map, List.getElem?_toArray, List.getElem?_cons_zero, List.getElem?_cons_succ]
  (repeat (first | (refine wpTree.take (v := undef) (Or.inr ⟨by rfl, rfl⟩) ?_; simp only [Act.put, List.setIfInBounds_toArray, List.set_cons_zero, List.set_cons_succ]) | (refine wpTree.take (v := ?_) (Or.inl ⟨by rfl, ?_⟩) ?_; rotate_left; (focus (intro _ hS; (try dsimp only at hS); go_split_ands; (try subst hS); go_simp; (try (with_reducible rfl)); done)); simp only [Act.put, List.setIfInBounds_toArray, List.set_cons_zero, List.set_cons_succ])))
  refine wpTree.one (fun K hK => ?_)
  go_simp
  refine hK.out _ _ hHeld (fun _ => ?_)
  clear hK K hHeld
  (try simp only [Act.put, List.setIfInBounds_toArray, List.set_cons_zero, List.set_cons_succ])
  refine wpTree.one (fun K hK => ?_)
  go_simp
  go_at_call 14
  refine HK.out.mono ?_
  rintro e w2 ⟨rfl, hM, hxk⟩
  have H2 := Lib.hid (And.intro hM (show Blk w2 w.heap.size 60 (Th.cells ⟨false, q, bs⟩).toArray from hxk.trans (HX.out.next (Below.refl _ _).drew)))
  refine hK.out _ _ (hM.blk.cell 1) (fun _ => ?_)
  clear hK K hM hxk x0 x1 c1 HK
  (try simp only [Act.put, List.setIfInBounds_toArray, List.set_cons_zero, List.set_cons_succ])
  (repeat (first | (refine wpTree.take (v := undef) (Or.inr ⟨by rfl, rfl⟩) ?_; simp only [Act.put, List.setIfInBounds_toArray, List.set_cons_zero, List.set_cons_succ]) | (refine wpTree.take (v := ?_) (Or.inl ⟨by rfl, ?_⟩) ?_; rotate_left; (focus (intro _ hS; (try dsimp only at hS); go_split_ands; (try subst hS); go_simp; (try (with_reducible rfl)); done)); simp only [Act.put, List.setIfInBounds_toArray, List.set_cons_zero, List.set_cons_succ])))
  refine wpTree.done ?_
  have H3 := Lib.hid H2.out.1
  have c2 : w2.cell? ⟨g, 2, none⟩ = some (.slice An nl kn) := by rw [HNL.out]; exact H3.out.blk.cell 2
  have i1 : ¬ ((nl : Int) < 400) := by have := HLT.out; omega
  go_wp2_with fail
  go_ret
  exact ⟨rfl, _, _, H3.out⟩
end Lk
end Go.Proofs.Ythiclefiliedjaa

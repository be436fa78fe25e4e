/-
link: Send.
-/
import Derived.Test.YtifoheodcbjapaaLk2
import Derived.Test.YtifoheodcbjapaaTreeL
namespace Go.Proofs.Ytifoheodcbjapaa
open Go.RowKit
set_option linter.unusedSimpArgs false
set_option linter.unusedVariables false
namespace Lk
/-- What Send says. -/
def sendE (s : LS) (m : Nat) : Int := if decide (1 ≤ m) && decide (m ≤ 1800) then (if 250 ≤ s.ts.length ∨ 1099511627776 < s.nx then 5 else 0) else 3
def LS.send (s : LS) (bs : List Nat) : LS := if sendE s bs.length = 0 then ⟨s.nx + 1, s.ex, s.ts ++ [bs]⟩ else s
def sendN (s : LS) (m : Nat) : Nat := if sendE s m = 0 then s.nx else 0
section
variable (W : World) {B d : Nat} {F : Nat → Prop} {s : LS}
set_option maxRecDepth 20000 in
theorem send_nil (v : Value) : Calls Try.prog 39 #[.pointer none, v] W fun e W' => e = .returned (.tuple #[.int .u64 0, .int .i64 6]) ∧ W = W' := by
  have HM := Lib.hid (made_nil W)
  go_enter Try.func39, Try.ntmps39
  go_wp2_with (go_at_call 62; refine HM.out.mono ?_; rintro e w1 ⟨rfl, rfl⟩)
  go_ret2
  exact ⟨rfl, rfl⟩
theorem own_le {w : World} {B B' : Nat} {e : TypeId} {size n : Nat} {v : Value} {xs : List Value} (h : w.ownsRow B' e size v n xs) (hB : B ≤ B') : w.ownsRow B e size v n xs := by
  obtain ⟨hl, h⟩ := h
  refine ⟨hl, h.imp id ?_⟩
  rintro ⟨g, cap, cur, e, hg, r⟩
  exact ⟨g, cap, cur, e, Nat.le_trans hB hg, r⟩
theorem range_blk {w w' : World} {g : Nat} {x : It} (hb : Below w.heap.size w w') (h : Blk w g 70 x.cells.toArray) : w'.rangeAt g 0 x.cells := (h.next hb).range
theorem its_range {w : World} {g : Nat} {x : It} (h : Blk w g 70 x.cells.toArray) : w.rangeAt g 0 x.cells := h.range
theorem LK.grow {W' : World} (h : LK W B d F s) (hb : Below W.heap.size W W') : LK W' B d (Grow F W W') s := by
  obtain ⟨A, c, l, D⟩ := h; exact ⟨A, c, l, D.grow hb⟩
set_option maxHeartbeats 8000000 in
set_option maxRecDepth 20000 in
theorem send_any (h : LK W B d F s) (Ab : Option Addr) (m cb : Nat) (bs : List Nat) (hm : bs.length = m) (hs : Src W Ab m (u8s bs)) (h256 : ∀ y ∈ bs, y < 256) : Calls Try.prog 39 #[.pointer (some ⟨d, 0, none⟩), .slice Ab m cb] W fun e W' =>
    e = .returned (.tuple #[.int .u64 (sendN s m : Nat), .int .i64 (sendE s m)]) ∧ LK W' B d (Grow F W W') (s.send bs) ∧ Turn B (fun k => k = d) W W' := by
  have HL := Lib.hid h
  have HM := Lib.hid (made_any W h)
  have HT := Lib.hid (istext_any W Ab m cb)
  have HBM := Lib.hid hm
  have same : sendE s m ≠ 0 → LK W B d (Grow F W W) (s.send bs) ∧ Turn B (fun k => k = d) W W := fun hr => by unfold LS.send; rw [HBM.out, if_neg hr]; exact ⟨LK.grow W HL.out (Below.refl _ _), ⟨Below.refl _ _, fun _ _ _ => rfl⟩⟩
  have SAME := Lib.hid same
  clear same
  cases ht : (decide (1 ≤ m) && decide (m ≤ 1800)) with
  | false =>
    have HE := Lib.hid (show sendE s m = 3 by unfold sendE; rw [ht, if_neg (by decide)])
    have HN := Lib.hid (show sendN s m = 0 by unfold sendN; rw [HE.out, if_neg (by decide)])
    rw [ht] at HT
    clear ht h hm hs h256
    go_enter Try.func39, Try.ntmps39
    go_wp2_with (first | (go_at_call 62; refine HM.out.mono ?_; rintro e w1 ⟨rfl, rfl⟩) | (go_at_call 63; refine HT.out.mono ?_; rintro e w1 ⟨rfl, rfl⟩))
    go_ret2
    exact ⟨by (rw [HE.out, HN.out]; try rfl), (SAME.out (by rw [HE.out]; decide)).1, (SAME.out (by rw [HE.out]; decide)).2⟩
  | true =>
    rw [ht] at HT
    obtain ⟨A, c, l, D⟩ := h
    have c1 := D.c1
    have c0 := D.c0
    have HD := Lib.hid D
    have htl := D.tl
    by_cases hf : 250 ≤ s.ts.length ∨ 1099511627776 < s.nx
    · have HE := Lib.hid (show sendE s m = 5 by unfold sendE; rw [ht, if_pos rfl, if_pos hf])
      have HN := Lib.hid (show sendN s m = 0 by unfold sendN; rw [HE.out, if_neg (by decide)])
      have hor : (250 : Int) ≤ (l.length : Nat) ∨ (¬ (250 : Int) ≤ (l.length : Nat) ∧ (1099511627776 : Int) < (s.nx : Nat)) := by omega
      clear ht hm hs h256 D htl hf
      rcases hor with hd | ⟨hd, hd2⟩
      all_goals
        go_enter Try.func39, Try.ntmps39
        go_wp2_with (first | (go_at_call 62; refine HM.out.mono ?_; rintro e w1 ⟨rfl, rfl⟩) | (go_at_call 63; refine HT.out.mono ?_; rintro e w1 ⟨rfl, rfl⟩))
        go_ret2
        exact ⟨by (rw [HE.out, HN.out]; try rfl), (SAME.out (by rw [HE.out]; decide)).1, (SAME.out (by rw [HE.out]; decide)).2⟩
    · have HE := Lib.hid (show sendE s m = 0 by unfold sendE; rw [ht, if_pos rfl, if_neg hf])
      have HN := Lib.hid (show sendN s m = s.nx by unfold sendN; rw [HE.out, if_pos rfl])
      have hd : ¬ (250 : Int) ≤ (l.length : Nat) := by omega
      have hd2 : ¬ (1099511627776 : Int) < (s.nx : Nat) := by omega
      have HF := Lib.hid (show l.length < 250 ∧ s.nx ≤ 1099511627776 by omega)
      have h12 : 1 ≤ bs.length ∧ bs.length ≤ 1800 := by simp at ht; omega
      have H12 := Lib.hid h12
      have H256 := Lib.hid h256
      have HS := Lib.hid hs
      have HC := Lib.hid (fun w hs => bclone_any w Ab m cb bs hm hs (by omega))
      clear ht hm hs h256 htl hf h12 SAME
      go_enter Try.func39, Try.ntmps39
      go_upto_region 7 with (first | (go_at_call 62; refine HM.out.mono ?_; rintro e w1 ⟨rfl, rfl⟩) | (go_at_call 63; refine HT.out.mono ?_; rintro e w1 ⟨rfl, rfl⟩))
      clear hd hd2 HM HT
      (try simp only [Act.put, List.setIfInBounds_toArray, List.set_cons_zero, List.set_cons_succ])
      go_cut [6] from 30 to 37 (fun vx wx => ∃ g x, vx = .pointer (some ⟨g, 0, none⟩) ∧ NewIt W wx g x ∧ x.q = s.nx ∧ x.bs = bs)
      case first =>
        refine wp_region_tree (S := (fun w' => w'.cell? ⟨d, 0, none⟩ = some (.int .u64 (s.nx : Nat)))) (.take 0 (.take 1 (.take 2 (.take 3 (.take 4 (.two 5 (.take 6 (.one 7 (.one 8 .nil))) 7 (.one 5 (.take 6 (.one 8 .nil))))))))) 9999 (by kernel_rfl) (by kernel_rfl) (by kernel_rfl) (by kernel_rfl) (by kernel_rfl) (fun _ _ d _ _ h => by cases d <;> exact h) c0 (fun hHeld => ?_); simp only [Tree.map, List.getElem?_toArray, List.getElem?_cons_zero, List.getElem?_cons_succ]
        (repeat (first | (refine wpTree.take (v := undef) (Or.inr ⟨by rfl, rfl⟩) ?_; simp only [Act.put, List.setIfInBounds_toArray, List.set_cons_zero, List.set_cons_succ]) | (refine wpTree.take (v := ?_) (Or.inl ⟨by rfl, ?_⟩) ?_; rotate_left; (focus (intro _ hS; (try dsimp only at hS); go_split_ands; (try subst hS); go_simp; (try (with_reducible rfl)); done)); simp only [Act.put, List.setIfInBounds_toArray, List.set_cons_zero, List.set_cons_succ])))
        refine wpTree.two ?_ ?_
        · refine wpTree.one (fun K hK => ?_)
          go_simp
          go_at_call 42
          refine (HC.out W.drew HS.out).mono ?_
          rintro e w2 ⟨u, rfl, hown, hb⟩
          obtain ⟨A2, k2, rfl⟩ := slice_of hown
          refine hK.out _ _ (cell_next hb hHeld) (fun hHeld' => ?_)
          clear hK K hHeld
          have hHeld := hHeld'
          clear hHeld'
          (try simp only [Act.put, List.setIfInBounds_toArray, List.set_cons_zero, List.set_cons_succ])
          (repeat (first | (refine wpTree.take (v := undef) (Or.inr ⟨by rfl, rfl⟩) ?_; simp only [Act.put, List.setIfInBounds_toArray, List.set_cons_zero, List.set_cons_succ]) | (refine wpTree.take (v := .agg #[.int .u64 (s.nx : Nat), .slice A2 bs.length k2]) (Or.inl ⟨by rfl, fun _ _ => by go_simp; rfl⟩) ?_; simp only [Act.put, List.setIfInBounds_toArray, List.set_cons_zero, List.set_cons_succ]) | (refine wpTree.take (v := ?_) (Or.inl ⟨by rfl, ?_⟩) ?_; rotate_left; (focus (intro _ hS; (try dsimp only at hS); go_split_ands; (try subst hS); go_simp; (try (with_reducible rfl)); done)); simp only [Act.put, List.setIfInBounds_toArray, List.set_cons_zero, List.set_cons_succ])))
          refine wpTree.one (fun K hK => ?_)
          go_simp
          refine hK.out _ _ (cell_alloc hHeld) (fun hHeld' => ?_)
          clear hK K hHeld
          have hHeld := hHeld'
          clear hHeld'
          (try simp only [Act.put, List.setIfInBounds_toArray, List.set_cons_zero, List.set_cons_succ])
          (repeat (first | (refine wpTree.take (v := undef) (Or.inr ⟨by rfl, rfl⟩) ?_; simp only [Act.put, List.setIfInBounds_toArray, List.set_cons_zero, List.set_cons_succ]) | (refine wpTree.take (v := ?_) (Or.inl ⟨by rfl, ?_⟩) ?_; rotate_left; (focus (intro _ hS; (try dsimp only at hS); go_split_ands; (try subst hS); go_simp; (try (with_reducible rfl)); done)); simp only [Act.put, List.setIfInBounds_toArray, List.set_cons_zero, List.set_cons_succ])))
          refine wpTree.one (fun K hK => ?_)
          refine step_store_blk (by rfl) 70 _ _ rfl w2.heap.size 70 #[.int .u64 0, .slice none 0 0] (It.cells ⟨s.nx, A2, k2, bs⟩).toArray rfl rfl (Blk.new _ _ _) (itinfoA _) (it_siz _) (it_one _) ?_
          refine hK.out _ _ ?_ (fun _ => ?_)
          · rw [Wr.alloc_setRow]; exact cell_alloc (cell_next hb c0)
          clear hK K hHeld
          (try simp only [Act.put, List.setIfInBounds_toArray, List.set_cons_zero, List.set_cons_succ])
          refine wpTree.done ?_
          go_wp2_with fail
          go_meet
          rw [Wr.alloc_setRow]
          have hb2 : Below W.heap.size W w2 := (Below.refl _ _).drew.trans hb
          exact ⟨_, ⟨s.nx, A2, k2, bs⟩, rfl, ⟨hb2.alloc hb2.size _, hb2.size, Blk.new _ _ _, new_at H256.out H12.out.1 H12.out.2 hown (fun k hk _ => Below.heap_alloc _ _ k hk) (by simp)⟩, rfl, rfl⟩
        · refine wpTree.one (fun K hK => ?_)
          go_simp
          refine hK.out _ _ (cell_alloc hHeld) (fun hHeld' => ?_)
          clear hK K hHeld
          have hHeld := hHeld'
          clear hHeld'
          (try simp only [Act.put, List.setIfInBounds_toArray, List.set_cons_zero, List.set_cons_succ])
          (repeat (first | (refine wpTree.take (v := undef) (Or.inr ⟨by rfl, rfl⟩) ?_; simp only [Act.put, List.setIfInBounds_toArray, List.set_cons_zero, List.set_cons_succ]) | (refine wpTree.take (v := ?_) (Or.inl ⟨by rfl, ?_⟩) ?_; rotate_left; (focus (intro _ hS; (try dsimp only at hS); go_split_ands; (try subst hS); go_simp; (try (with_reducible rfl)); done)); simp only [Act.put, List.setIfInBounds_toArray, List.set_cons_zero, List.set_cons_succ])))
          refine wpTree.one (fun K hK => ?_)
          go_simp
          go_at_call 42
          refine (HC.out (W.drew.alloc (.cells #[.int .u64 0, .slice none 0 0] 70)) (HS.out.below ((Below.refl _ _).drew.alloc (Nat.le_refl _) _))).mono ?_
          rintro e w2 ⟨u, rfl, hown, hb⟩
          obtain ⟨A2, k2, rfl⟩ := slice_of hown
          refine hK.out _ _ (cell_next hb hHeld) (fun hHeld' => ?_)
          clear hK K hHeld
          have hHeld := hHeld'
          clear hHeld'
          (try simp only [Act.put, List.setIfInBounds_toArray, List.set_cons_zero, List.set_cons_succ])
          (repeat (first | (refine wpTree.take (v := undef) (Or.inr ⟨by rfl, rfl⟩) ?_; simp only [Act.put, List.setIfInBounds_toArray, List.set_cons_zero, List.set_cons_succ]) | (refine wpTree.take (v := .agg #[.int .u64 (s.nx : Nat), .slice A2 bs.length k2]) (Or.inl ⟨by rfl, fun _ _ => by go_simp; rfl⟩) ?_; simp only [Act.put, List.setIfInBounds_toArray, List.set_cons_zero, List.set_cons_succ]) | (refine wpTree.take (v := ?_) (Or.inl ⟨by rfl, ?_⟩) ?_; rotate_left; (focus (intro _ hS; (try dsimp only at hS); go_split_ands; (try subst hS); go_simp; (try (with_reducible rfl)); done)); simp only [Act.put, List.setIfInBounds_toArray, List.set_cons_zero, List.set_cons_succ])))
          refine wpTree.one (fun K hK => ?_)
          refine step_store_blk (by rfl) 70 _ _ rfl W.heap.size 70 #[.int .u64 0, .slice none 0 0] (It.cells ⟨s.nx, A2, k2, bs⟩).toArray rfl rfl ((Blk.new W.drew 70 #[.int .u64 0, .slice none 0 0]).next hb) (itinfoA _) (it_siz _) (it_one _) ?_
          refine hK.out _ _ ?_ (fun _ => ?_)
          · exact (World.cell?_of_block (setRow_other w2 W.heap.size d _ (by have := (HD.out.low d HD.out.fd).2; omega))).trans hHeld
          clear hK K hHeld
          (try simp only [Act.put, List.setIfInBounds_toArray, List.set_cons_zero, List.set_cons_succ])
          refine wpTree.done ?_
          go_wp2_with fail
          go_meet
          have hbA : Below W.heap.size W (W.drew.alloc (.cells #[.int .u64 0, .slice none 0 0] 70)) := (Below.refl _ _).drew.alloc (Nat.le_refl _) _
          have hb2 : Below W.heap.size W w2 := hbA.trans (hb.mono hbA.size)
          have hA1 : (W.drew.alloc (.cells #[.int .u64 0, .slice none 0 0] 70)).heap.size = W.heap.size + 1 := by simp
          have hBI := (Blk.new W.drew 70 #[.int .u64 0, .slice none 0 0]).next hb
          exact ⟨_, ⟨s.nx, A2, k2, bs⟩, rfl, ⟨below_setRow hb2 (Nat.le_refl _) _, Nat.le_refl _, hBI.setRow _, (new_at H256.out H12.out.1 H12.out.2 (own_le hown (by omega)) (fun k _ hc => setRow_other w2 W.heap.size k _ (by
            rintro rfl
            obtain ⟨cs, z, hh⟩ := hc
            have := hBI
            unfold Blk at this
            rw [show W.drew.heap.size = W.heap.size from rfl] at this
            rw [this] at hh
            simp only [Option.some.injEq, Obj.cells.injEq] at hh
            exact absurd hh.2.1 (by decide))) (by simp))⟩, rfl, rfl⟩
      case rest =>
        obtain ⟨g, x, rfl, hN, hq, hbs⟩ := hcut
        have D7 := D.next hN.1
        have c1 := D7.c1
        have rg := its_range hN.2.2.1
        have cx := hN.2.2.1.cell 0
        rw [List.getElem?_toArray, it_0, hq] at cx
        have HNW := Lib.hid hN
        have HQ := Lib.hid hq
        have HBS := Lib.hid hbs
        have HD7 := Lib.hid D7
        obtain ⟨i0, z0, hi, hz, hsz, hby, hzs⟩ := info_it
        obtain ⟨N, hNN⟩ : ∃ N, N = l.length := ⟨_, rfl⟩
        have HNN := Lib.hid hNN
        rw [← hNN] at c1
        have hNc : N ≤ c := by rw [hNN]; exact D.cap
        clear D7 hN hq hbs D c0 hNN
        go_upto_region 9 with fail
        (try simp only [Act.put, List.setIfInBounds_toArray, List.set_cons_zero, List.set_cons_succ])
        refine wp_region_treeL (S := (fun w' => w'.cell? ⟨d, 1, none⟩ = some (.slice A N c) ∧ w'.rangeAt g 0 x.cells)) (.take 0 (.take 1 (.take 2 (.take 3 (.take 4 (.take 5 (.take 6 (.take 7 (.take 8 (.one 9 (.one 10 (.take 11 (.take 12 (.last 13)))))))))))))) 13 (by kernel_rfl) (by kernel_rfl) (by kernel_rfl) (by kernel_rfl) (by kernel_rfl) (fun _ _ d _ _ h => by cases d <;> exact h) ⟨c1, rg⟩ (fun hHeld => ?_); simp only [Tree.map, List.getElem?_toArray, List.getElem?_cons_zero, List.getElem?_cons_succ]
        (repeat (first | (refine wpTree.take (v := undef) (Or.inr ⟨by rfl, rfl⟩) ?_; simp only [Act.put, List.setIfInBounds_toArray, List.set_cons_zero, List.set_cons_succ]) | (refine wpTree.take (v := .agg #[.int .u64 (x.q : Nat), .slice x.A x.bs.length x.c]) (yieldsIf_load_mid rfl 70 _ rfl _ _ rfl x.cells _ (fun _ hS => hS.2) Try.underlying70 rfl (itinfo x)) ?_; simp only [Act.put, List.setIfInBounds_toArray, List.set_cons_zero, List.set_cons_succ]) | (refine wpTree.take (v := ?_) (Or.inl ⟨by rfl, ?_⟩) ?_; rotate_left; (focus (intro _ hS; (try dsimp only at hS); go_split_ands; (try subst hS); go_simp; (try (with_reducible rfl)); done)); simp only [Act.put, List.setIfInBounds_toArray, List.set_cons_zero, List.set_cons_succ])))
        refine wpTree.one (fun K hK => ?_)
        go_simp
        obtain ⟨w8, hw8⟩ : ∃ w8, w8 = (wc.alloc (.cells #[.int .u64 (x.q : Nat), .slice x.A x.bs.length x.c] 70)).drew := ⟨_, rfl⟩
        have hb8 : Below wc.heap.size wc w8 := by rw [hw8]; exact ((Below.refl _ _).alloc (Nat.le_refl _) _).drew
        have hn8 : Blk w8 wc.heap.size 70 x.cells.toArray := by rw [hw8]; exact Blk.new _ _ _
        have hz8 : w8.heap.size = wc.heap.size + 1 := by rw [hw8]; simp
        rw [← hw8]
        refine hK.out _ _ ⟨cell_next hb8 hHeld.1, range_blk hb8 HNW.out.2.2.1⟩ (fun hHeld8 => ?_)
        clear hK K hHeld hw8
        (try simp only [Act.put, List.setIfInBounds_toArray, List.set_cons_zero, List.set_cons_succ])
        have D8 := HD7.out.next hb8
        refine wpTree.one (fun K hK => ?_)
        refine step_append_fresh (w := w8) (by rfl) _ _ 45 rfl 70 i0 z0 Try.underlying45 hi hz A N (its l) rfl (by rw [its_len, hsz, HNN.out]) (by have := D8.row.src; rw [HNN.out]; exact this) ⟨wc.heap.size, 0, none⟩ 1 1 x.cells rfl (by rw [hsz]; rfl)
          (fun j u hj => by rw [add_plain, Nat.zero_add, hn8.cell, List.getElem?_toArray]; exact hj) (by decide) (by unfold maxLen; have := HF.out; have := HNN.out; omega) (by rw [hby]; have := HF.out; have := HNN.out; omega) ?_
        intro k tl hk
        obtain ⟨w9, hw9⟩ : ∃ w9, w9 = w8.drew.alloc (.cells ((its l ++ x.cells).toArray ++ tl) 70) := ⟨_, rfl⟩
        have hb9 : Below w8.heap.size w8 w9 := by rw [hw9]; exact (Below.refl _ _).drew.alloc (Nat.le_refl _) _
        have hn9 : Blk w9 w8.heap.size 70 ((its l ++ x.cells).toArray ++ tl) := by rw [hw9]; exact Blk.new _ _ _
        have hz9 : w9.heap.size = w8.heap.size + 1 := by rw [hw9]; simp
        rw [← hw9]
        have hb79 := hb8.trans (hb9.mono hb8.size)
        refine hK.out _ _ ⟨cell_next hb9 hHeld8.1, range_blk hb79 HNW.out.2.2.1⟩ (fun hHeld9 => ?_)
        clear hK K hHeld8 hw9
        (try simp only [Act.put, List.setIfInBounds_toArray, List.set_cons_zero, List.set_cons_succ])
        (repeat (first | (refine wpTree.take (v := undef) (Or.inr ⟨by rfl, rfl⟩) ?_; simp only [Act.put, List.setIfInBounds_toArray, List.set_cons_zero, List.set_cons_succ]) | (refine wpTree.take (v := ?_) (Or.inl ⟨by rfl, ?_⟩) ?_; rotate_left; (focus (intro _ hS; (try dsimp only at hS); go_split_ands; (try subst hS); go_simp; (try (with_reducible rfl)); done)); simp only [Act.put, List.setIfInBounds_toArray, List.set_cons_zero, List.set_cons_succ])))
        have D9 := HD7.out.next hb79
        have hk9 := D9.blk.setCell 1 (.slice (some ⟨w8.heap.size, 0, none⟩) (N + 1) k)
        have z1 := D9.blk.frozen 1
        have c19 := D9.c1
        have c0 := hk9.cell 0
        have z0' := hk9.frozen 0
        have c0x : ((w9.setCell ⟨d, 1, none⟩ (.slice (some ⟨w8.heap.size, 0, none⟩) (N + 1) k)).setCell ⟨d, 0, none⟩ (.int .u64 ((s.nx : Int) + 1))).cell? ⟨g, 0, none⟩ = some (.int .u64 (s.nx : Nat)) := by
          have hgd : g ≠ d := fun e => by have := HNW.out.2.1; have := (HD.out.low d HD.out.fd).2; omega
          rw [World.cell?_of_block ((Below.heap_setCell _ ⟨d, 0, none⟩ _ g hgd).trans (Below.heap_setCell w9 ⟨d, 1, none⟩ _ g hgd) : ((w9.setCell ⟨d, 1, none⟩ (.slice (some ⟨w8.heap.size, 0, none⟩) (N + 1) k)).setCell ⟨d, 0, none⟩ (.int .u64 ((s.nx : Int) + 1))).heap[(⟨g, 0, none⟩ : Addr).block]? = _)]
          exact (hb79.cell (p := ⟨g, 0, none⟩) HNW.out.2.2.1.lt).trans cx
        simp only [List.setIfInBounds_toArray, List.set_cons_zero, List.set_cons_succ, List.getElem?_toArray, List.getElem?_cons_succ, List.getElem?_cons_zero] at c0
        have ew : IntKind.u64.wrap ((s.nx : Int) + 1) = ((s.nx + 1 : Nat) : Int) := by have := HF.out; rw [IntKind.wrap_u64]; omega
        have HEND := Lib.hid (send_end HD.out HNW.out HQ.out hb79 (r := w8.heap.size) ⟨by omega, by omega⟩ hn9 (fun j v hj => by
          rw [its_app] at hj
          rw [Array.getElem?_append_left (by have := (List.getElem?_eq_some_iff.1 hj).1; simpa [its] using this), List.getElem?_toArray]
          simpa [its] using hj) (k := k) (by rw [← HNN.out]; exact hk) HF.out.1 HF.out.2)
        rw [← HNN.out] at HEND
        clear D8 D9 hb8 hb9 hn8 hn9 hz8 hz9 hb79 hk9 hi hz hsz hby hzs c1 rg hHeld9
        refine wpTree.last (fun K hK => ?_)
        go_simp
        refine hK.out _ _ ?_
        clear hK K
        (try simp only [Act.put, List.setIfInBounds_toArray, List.set_cons_zero, List.set_cons_succ])
        go_wp2_with fail
        go_ret2
        refine ⟨by (rw [HE.out, HN.out]; try rfl), ?_⟩
        rw [show s.send bs = ⟨s.nx + 1, s.ex, s.ts ++ [x.bs]⟩ by unfold LS.send; rw [HBM.out, HE.out, if_pos rfl, HBS.out]]
        exact HEND.out
end
end Lk
end Go.Proofs.Ytifoheodcbjapaa

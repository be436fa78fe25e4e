/-
tree: mayHang.
-/
import Derived.Test.YtohnhokddbeheaaTr12
namespace Go.Proofs.Ytohnhokddbeheaa
open Go.RowKit
set_option linter.unusedSimpArgs false
set_option linter.unusedVariables false
namespace Tr
/-- A node's neighbours, as the code finds them. -/
def nextL (t : Tv) (n : Int) : List Nat := thoseL fun i => jnB t n (i : Nat)
def hangB (t : Tv) (n : Int) : Bool := decide (kindV t.k n = 3) || (decide ((nextL t n).length = 1) && decide (kindV t.k ((nextL t n).getD 0 0 : Nat) = 3))
set_option maxRecDepth 20000 in
set_option maxHeartbeats 8000000 in
theorem mayhang_any (W : World) (t : Tv) (hr : RowsOf ec 2 W t.A t.es) (hlen : t.es.length ≤ 1000000) (a : Int) :
    Calls Try.prog 57 #[.agg t.cells.toArray, .int .i64 a] W fun e W' => e = .returned (.bool (hangB t a)) ∧ Below W.heap.size W W' := by
  have hb2 := (Below.refl W.heap.size W).alloc (Nat.le_refl _) (.cells t.cells.toArray 25)
  have hx : Blk (W.alloc (.cells t.cells.toArray 25)) W.heap.size 25 t.cells.toArray := Blk.new W _ _
  obtain ⟨w2, hw2⟩ : ∃ w2, w2 = W.alloc (.cells t.cells.toArray 25) := ⟨_, rfl⟩
  rw [← hw2] at hb2 hx
  have HB2 := Lib.hid hb2
  have HX2 := Lib.hid hx
  have HNX := Lib.hid (next_any w2 t (hr.next hb2) hlen a)
  have hr0 : w2.rangeAt W.heap.size 0 t.cells := hx.range
  obtain ⟨l, hl⟩ : ∃ l, l = nextL t a := ⟨_, rfl⟩
  have hHB : hangB t a = (decide (kindV t.k a = 3) || (decide (l.length = 1) && decide (kindV t.k (l.getD 0 0 : Nat) = 3))) := by rw [hl]; rfl
  have HHB := Lib.hid hHB
  have HNX2 := Lib.hid (show Calls Try.prog 22 #[.agg t.cells.toArray, .int .i64 a] w2 fun e W' => ∃ v, e = .returned v ∧ Nds W' w2.heap.size v l ∧ Below w2.heap.size w2 W' by rw [hl]; exact HNX.out)
  clear hb2 hx hl hHB HNX hr hlen
  go_enter Try.func57, Try.ntmps57
  go_upto_region 1 with fail
  rw [← hw2]
  clear hw2
  go_upto_region 2 with (first | (refine wpList_load_mid rfl 25 _ rfl _ _ rfl t.cells _ hr0 Try.underlying25 rfl (tvinfo t) ?_) | (go_at_call 22; refine HNX2.out.mono ?_; rintro e w3 ⟨v, rfl, hN, hb⟩; have HN3 := Lib.hid hN; have HB3 := Lib.hid hb; clear hN hb HNX2))
  clear hr0
  have HX3 := Lib.hid (HX2.out.next HB3.out)
  have HBW := Lib.hid (HB2.out.trans (HB3.out.mono HB2.out.size))
  have HK := Lib.hid (kind_any w3.drew t a)
  obtain ⟨kd, hkd⟩ : ∃ kd, kd = kindV t.k a := ⟨_, rfl⟩
  rw [← hkd] at HK HHB
  clear hkd
  by_cases h1 : l.length = 1
  · obtain ⟨x, hx⟩ : ∃ x, l[0]? = some x := ⟨_, List.getElem?_eq_getElem (by omega)⟩
    obtain ⟨q, qo, cp, ev, hq, cx⟩ := HN3.out.at_ hx
    rw [h1] at ev
    subst ev
    have HXX := Lib.hid (show l.getD 0 0 = x by rw [List.getD_eq_getElem?_getD, hx]; rfl)
    have hcc : w3.rangeAt W.heap.size 0 t.cells ∧ w3.cell? ⟨q, qo, none⟩ = some (.int .i64 (x : Nat)) := ⟨HX3.out.range, cx⟩
    have HCC := Lib.hid hcc
    have H1 := Lib.hid h1
    clear hx hq cx h1
    by_cases hk : kd = 3
    · subst hk
      refine wp_region_tree (S := (fun w' => w'.rangeAt W.heap.size 0 t.cells ∧ w'.cell? ⟨q, qo, none⟩ = some (.int .i64 (x : Nat)))) (.take 0 (.take 1 (.one 2 (.take 3 (.take 4 (.take 5 (.take 6 (.take 7 (.take 8 (.take 9 (.take 10 (.take 11 (.take 12 (.one 13 (.take 14 (.take 15 (.take 16 (.take 17 .nil)))))))))))))))))) 9999 (by kernel_rfl) (by kernel_rfl) (by kernel_rfl) (by kernel_rfl) (by kernel_rfl) (fun _ _ d _ _ h => by cases d <;> exact h) hcc (fun hHeld => ?_); simp only [Tree.map, List.getElem?_toArray, List.getElem?_cons_zero, List.getElem?_cons_succ]
      (repeat (first | (refine wpTree.take (v := undef) (Or.inr ⟨by rfl, rfl⟩) ?_; simp only [Act.put, List.setIfInBounds_toArray, List.set_cons_zero, List.set_cons_succ]) | (refine wpTree.take (v := .agg t.cells.toArray) (yieldsIf_load_mid rfl 25 _ rfl _ _ rfl t.cells _ (fun _ hS => hS.1) Try.underlying25 rfl (tvinfo t)) ?_; simp only [Act.put, List.setIfInBounds_toArray, List.set_cons_zero, List.set_cons_succ]) | (refine wpTree.take (v := ?_) (Or.inl ⟨by rfl, ?_⟩) ?_; rotate_left; (focus (intro _ hS; (try dsimp only at hS); go_split_ands; (try subst hS); go_simp; (try (with_reducible rfl)); done)); simp only [Act.put, List.setIfInBounds_toArray, List.set_cons_zero, List.set_cons_succ])))
      clear hcc
      refine wpTree.one (fun K hK => ?_)
      go_simp
      go_at_call 25
      refine HK.out.mono ?_
      rintro e w5 ⟨rfl, hb⟩
      have hbk : Below w3.heap.size w3 w5 := (Below.refl w3.heap.size w3).drew.trans hb
      have HB5 := Lib.hid hbk
      refine hK.out _ _ ⟨rng_next HCC.out.1 hbk, cell_next hbk HCC.out.2⟩ (fun _ => ?_)
      clear hK K hHeld hb hbk HK
      (try simp only [Act.put, List.setIfInBounds_toArray, List.set_cons_zero, List.set_cons_succ])
      (repeat (first | (refine wpTree.take (v := undef) (Or.inr ⟨by rfl, rfl⟩) ?_; simp only [Act.put, List.setIfInBounds_toArray, List.set_cons_zero, List.set_cons_succ]) | (refine wpTree.take (v := ?_) (Or.inl ⟨by rfl, ?_⟩) ?_; rotate_left; (focus (intro _ hS; (try dsimp only at hS); go_split_ands; (try subst hS); go_simp; (try (with_reducible rfl)); done)); simp only [Act.put, List.setIfInBounds_toArray, List.set_cons_zero, List.set_cons_succ])))
      refine wpTree.one (fun K hK => ?_)
      show K _ _
      refine hK.out _ _ ⟨rng_next HCC.out.1 HB5.out, cell_next HB5.out HCC.out.2⟩ (fun _ => ?_)
      clear hK K
      (try simp only [Act.put, List.setIfInBounds_toArray, List.set_cons_zero, List.set_cons_succ])
      (repeat (first | (refine wpTree.take (v := undef) (Or.inr ⟨by rfl, rfl⟩) ?_; simp only [Act.put, List.setIfInBounds_toArray, List.set_cons_zero, List.set_cons_succ]) | (refine wpTree.take (v := ?_) (Or.inl ⟨by rfl, ?_⟩) ?_; rotate_left; (focus (intro _ hS; (try dsimp only at hS); go_split_ands; (try subst hS); go_simp; (try (with_reducible rfl)); done)); simp only [Act.put, List.setIfInBounds_toArray, List.set_cons_zero, List.set_cons_succ])))
      refine wpTree.done ?_
      go_wp2_with fail
      go_ret
      refine ⟨?_, HBW.out.trans (HB5.out.mono HBW.out.size)⟩
      rw [HHB.out]
      rfl
    · have j1 : (kd == 3) = false := by simpa using hk
      refine wp_region_tree (S := (fun w' => w'.rangeAt W.heap.size 0 t.cells ∧ w'.cell? ⟨q, qo, none⟩ = some (.int .i64 (x : Nat)))) (.take 0 (.take 1 (.one 2 (.take 3 (.take 4 (.take 5 (.take 6 (.take 7 (.take 8 (.take 9 (.take 10 (.take 11 (.take 12 (.one 13 (.take 14 (.take 15 (.take 16 (.take 17 .nil)))))))))))))))))) 9999 (by kernel_rfl) (by kernel_rfl) (by kernel_rfl) (by kernel_rfl) (by kernel_rfl) (fun _ _ d _ _ h => by cases d <;> exact h) hcc (fun hHeld => ?_); simp only [Tree.map, List.getElem?_toArray, List.getElem?_cons_zero, List.getElem?_cons_succ]
      (repeat (first | (refine wpTree.take (v := undef) (Or.inr ⟨by rfl, rfl⟩) ?_; simp only [Act.put, List.setIfInBounds_toArray, List.set_cons_zero, List.set_cons_succ]) | (refine wpTree.take (v := .agg t.cells.toArray) (yieldsIf_load_mid rfl 25 _ rfl _ _ rfl t.cells _ (fun _ hS => hS.1) Try.underlying25 rfl (tvinfo t)) ?_; simp only [Act.put, List.setIfInBounds_toArray, List.set_cons_zero, List.set_cons_succ]) | (refine wpTree.take (v := ?_) (Or.inl ⟨by rfl, ?_⟩) ?_; rotate_left; (focus (intro _ hS; (try dsimp only at hS); go_split_ands; (try subst hS); go_simp; (try (with_reducible rfl)); done)); simp only [Act.put, List.setIfInBounds_toArray, List.set_cons_zero, List.set_cons_succ])))
      clear hcc
      refine wpTree.one (fun K hK => ?_)
      go_simp
      go_at_call 25
      refine HK.out.mono ?_
      rintro e w5 ⟨rfl, hb⟩
      have hbk : Below w3.heap.size w3 w5 := (Below.refl w3.heap.size w3).drew.trans hb
      have HB5 := Lib.hid hbk
      refine hK.out _ _ ⟨rng_next HCC.out.1 hbk, cell_next hbk HCC.out.2⟩ (fun _ => ?_)
      clear hK K hHeld hb hbk HK
      (try simp only [Act.put, List.setIfInBounds_toArray, List.set_cons_zero, List.set_cons_succ])
      (repeat (first | (refine wpTree.take (v := undef) (Or.inr ⟨by rfl, rfl⟩) ?_; simp only [Act.put, List.setIfInBounds_toArray, List.set_cons_zero, List.set_cons_succ]) | (refine wpTree.take (v := .agg t.cells.toArray) (yieldsIf_load_mid rfl 25 _ rfl _ _ rfl t.cells _ (fun _ hS => hS.1) Try.underlying25 rfl (tvinfo t)) ?_; simp only [Act.put, List.setIfInBounds_toArray, List.set_cons_zero, List.set_cons_succ]) | (refine wpTree.take (v := ?_) (Or.inl ⟨by rfl, ?_⟩) ?_; rotate_left; (focus (intro _ hS; (try dsimp only at hS); go_split_ands; (try subst hS); go_simp; (try (with_reducible rfl)); done)); simp only [Act.put, List.setIfInBounds_toArray, List.set_cons_zero, List.set_cons_succ])))
      have HK2 := Lib.hid (kind_any w5 t (x : Nat))
      refine wpTree.one (fun K hK => ?_)
      (try rw [if_pos (by rfl)])
      go_simp
      go_at_call 25
      refine HK2.out.mono ?_
      rintro e w6 ⟨rfl, hb⟩
      have hbk : Below w3.heap.size w3 w6 := HB5.out.trans (hb.mono HB5.out.size)
      have HB6 := Lib.hid hbk
      refine hK.out _ _ ⟨rng_next HCC.out.1 hbk, cell_next hbk HCC.out.2⟩ (fun _ => ?_)
      clear hK K hb hbk HK2
      (try simp only [Act.put, List.setIfInBounds_toArray, List.set_cons_zero, List.set_cons_succ])
      (repeat (first | (refine wpTree.take (v := undef) (Or.inr ⟨by rfl, rfl⟩) ?_; simp only [Act.put, List.setIfInBounds_toArray, List.set_cons_zero, List.set_cons_succ]) | (refine wpTree.take (v := ?_) (Or.inl ⟨by rfl, ?_⟩) ?_; rotate_left; (focus (intro _ hS; (try dsimp only at hS); go_split_ands; (try subst hS); go_simp; (try (with_reducible rfl)); done)); simp only [Act.put, List.setIfInBounds_toArray, List.set_cons_zero, List.set_cons_succ])))
      refine wpTree.done ?_
      go_wp2_with fail
      go_ret
      refine ⟨?_, HBW.out.trans (HB6.out.mono HBW.out.size)⟩
      rw [HHB.out, HXX.out, H1.out]
      simp [hk]
      rfl
  · obtain ⟨A, cp, ev⟩ := HN3.out.shape
    subst ev
    obtain ⟨ln, hln⟩ : ∃ ln, ln = l.length := ⟨_, rfl⟩
    rw [← hln]
    have H1 := Lib.hid h1
    have i1 : ¬ ((ln : Nat) : Int) = 1 := by omega
    have i2 : (((ln : Nat) : Int) == 1) = false := by simpa using i1
    have i3 : ¬ ln = 1 := by omega
    have hcc : w3.rangeAt W.heap.size 0 t.cells ∧ True := ⟨HX3.out.range, trivial⟩
    have HCC := Lib.hid hcc
    clear h1 hln
    by_cases hk : kd = 3
    · subst hk
      refine wp_region_tree (S := (fun w' => w'.rangeAt W.heap.size 0 t.cells ∧ True)) (.take 0 (.take 1 (.one 2 (.take 3 (.take 4 (.take 5 (.take 6 (.take 7 (.take 8 (.take 9 (.take 10 (.take 11 (.take 12 (.one 13 (.take 14 (.take 15 (.take 16 (.take 17 .nil)))))))))))))))))) 9999 (by kernel_rfl) (by kernel_rfl) (by kernel_rfl) (by kernel_rfl) (by kernel_rfl) (fun _ _ d _ _ h => by cases d <;> exact h) hcc (fun hHeld => ?_); simp only [Tree.map, List.getElem?_toArray, List.getElem?_cons_zero, List.getElem?_cons_succ]
      (repeat (first | (refine wpTree.take (v := undef) (Or.inr ⟨by rfl, rfl⟩) ?_; simp only [Act.put, List.setIfInBounds_toArray, List.set_cons_zero, List.set_cons_succ]) | (refine wpTree.take (v := .agg t.cells.toArray) (yieldsIf_load_mid rfl 25 _ rfl _ _ rfl t.cells _ (fun _ hS => hS.1) Try.underlying25 rfl (tvinfo t)) ?_; simp only [Act.put, List.setIfInBounds_toArray, List.set_cons_zero, List.set_cons_succ]) | (refine wpTree.take (v := ?_) (Or.inl ⟨by rfl, ?_⟩) ?_; rotate_left; (focus (intro _ hS; (try dsimp only at hS); go_split_ands; (try subst hS); go_simp; (try (with_reducible rfl)); done)); simp only [Act.put, List.setIfInBounds_toArray, List.set_cons_zero, List.set_cons_succ])))
      clear hcc
      refine wpTree.one (fun K hK => ?_)
      go_simp
      go_at_call 25
      refine HK.out.mono ?_
      rintro e w5 ⟨rfl, hb⟩
      have hbk : Below w3.heap.size w3 w5 := (Below.refl w3.heap.size w3).drew.trans hb
      have HB5 := Lib.hid hbk
      refine hK.out _ _ ⟨rng_next HCC.out.1 hbk, trivial⟩ (fun _ => ?_)
      clear hK K hHeld hb hbk HK
      (try simp only [Act.put, List.setIfInBounds_toArray, List.set_cons_zero, List.set_cons_succ])
      (repeat (first | (refine wpTree.take (v := undef) (Or.inr ⟨by rfl, rfl⟩) ?_; simp only [Act.put, List.setIfInBounds_toArray, List.set_cons_zero, List.set_cons_succ]) | (refine wpTree.take (v := ?_) (Or.inl ⟨by rfl, ?_⟩) ?_; rotate_left; (focus (intro _ hS; (try dsimp only at hS); go_split_ands; (try subst hS); go_simp; (try (with_reducible rfl)); done)); simp only [Act.put, List.setIfInBounds_toArray, List.set_cons_zero, List.set_cons_succ])))
      refine wpTree.one (fun K hK => ?_)
      show K _ _
      refine hK.out _ _ ⟨rng_next HCC.out.1 HB5.out, trivial⟩ (fun _ => ?_)
      clear hK K
      (try simp only [Act.put, List.setIfInBounds_toArray, List.set_cons_zero, List.set_cons_succ])
      (repeat (first | (refine wpTree.take (v := undef) (Or.inr ⟨by rfl, rfl⟩) ?_; simp only [Act.put, List.setIfInBounds_toArray, List.set_cons_zero, List.set_cons_succ]) | (refine wpTree.take (v := ?_) (Or.inl ⟨by rfl, ?_⟩) ?_; rotate_left; (focus (intro _ hS; (try dsimp only at hS); go_split_ands; (try subst hS); go_simp; (try (with_reducible rfl)); done)); simp only [Act.put, List.setIfInBounds_toArray, List.set_cons_zero, List.set_cons_succ])))
      refine wpTree.done ?_
      go_wp2_with fail
      go_ret
      refine ⟨?_, HBW.out.trans (HB5.out.mono HBW.out.size)⟩
      rw [HHB.out]
      rfl
    · have j1 : (kd == 3) = false := by simpa using hk
      refine wp_region_tree (S := (fun w' => w'.rangeAt W.heap.size 0 t.cells ∧ True)) (.take 0 (.take 1 (.one 2 (.take 3 (.take 4 (.take 5 (.take 6 (.take 7 (.take 8 (.take 9 (.take 10 (.take 11 (.take 12 (.one 13 (.take 14 (.take 15 (.take 16 (.take 17 .nil)))))))))))))))))) 9999 (by kernel_rfl) (by kernel_rfl) (by kernel_rfl) (by kernel_rfl) (by kernel_rfl) (fun _ _ d _ _ h => by cases d <;> exact h) hcc (fun hHeld => ?_); simp only [Tree.map, List.getElem?_toArray, List.getElem?_cons_zero, List.getElem?_cons_succ]
      (repeat (first | (refine wpTree.take (v := undef) (Or.inr ⟨by rfl, rfl⟩) ?_; simp only [Act.put, List.setIfInBounds_toArray, List.set_cons_zero, List.set_cons_succ]) | (refine wpTree.take (v := .agg t.cells.toArray) (yieldsIf_load_mid rfl 25 _ rfl _ _ rfl t.cells _ (fun _ hS => hS.1) Try.underlying25 rfl (tvinfo t)) ?_; simp only [Act.put, List.setIfInBounds_toArray, List.set_cons_zero, List.set_cons_succ]) | (refine wpTree.take (v := ?_) (Or.inl ⟨by rfl, ?_⟩) ?_; rotate_left; (focus (intro _ hS; (try dsimp only at hS); go_split_ands; (try subst hS); go_simp; (try (with_reducible rfl)); done)); simp only [Act.put, List.setIfInBounds_toArray, List.set_cons_zero, List.set_cons_succ])))
      clear hcc
      refine wpTree.one (fun K hK => ?_)
      go_simp
      go_at_call 25
      refine HK.out.mono ?_
      rintro e w5 ⟨rfl, hb⟩
      have hbk : Below w3.heap.size w3 w5 := (Below.refl w3.heap.size w3).drew.trans hb
      have HB5 := Lib.hid hbk
      refine hK.out _ _ ⟨rng_next HCC.out.1 hbk, trivial⟩ (fun _ => ?_)
      clear hK K hHeld hb hbk HK
      (try simp only [Act.put, List.setIfInBounds_toArray, List.set_cons_zero, List.set_cons_succ])
      (repeat (first | (refine wpTree.take (v := undef) (Or.inr ⟨by rfl, rfl⟩) ?_; simp only [Act.put, List.setIfInBounds_toArray, List.set_cons_zero, List.set_cons_succ]) | (refine wpTree.take (v := ?_) (Or.inl ⟨by rfl, ?_⟩) ?_; rotate_left; (focus (intro _ hS; (try dsimp only at hS); go_split_ands; (try subst hS); go_simp; (try (with_reducible rfl)); done)); simp only [Act.put, List.setIfInBounds_toArray, List.set_cons_zero, List.set_cons_succ])))
      refine wpTree.one (fun K hK => ?_)
      show K _ _
      refine hK.out _ _ ⟨rng_next HCC.out.1 HB5.out, trivial⟩ (fun _ => ?_)
      clear hK K
      (try simp only [Act.put, List.setIfInBounds_toArray, List.set_cons_zero, List.set_cons_succ])
      (repeat (first | (refine wpTree.take (v := undef) (Or.inr ⟨by rfl, rfl⟩) ?_; simp only [Act.put, List.setIfInBounds_toArray, List.set_cons_zero, List.set_cons_succ]) | (refine wpTree.take (v := ?_) (Or.inl ⟨by rfl, ?_⟩) ?_; rotate_left; (focus (intro _ hS; (try dsimp only at hS); go_split_ands; (try subst hS); go_simp; (try (with_reducible rfl)); done)); simp only [Act.put, List.setIfInBounds_toArray, List.set_cons_zero, List.set_cons_succ])))
      refine wpTree.done ?_
      go_wp2_with fail
      go_ret
      refine ⟨?_, HBW.out.trans (HB5.out.mono HBW.out.size)⟩
      rw [HHB.out]
      simp [hk, H1.out]
end Tr
end Go.Proofs.Ytohnhokddbeheaa

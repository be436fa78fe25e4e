/-
tree: Homes.
-/
import Derived.Test.YtohnhokddbeheaaTr6
namespace Go.Proofs.Ytohnhokddbeheaa
open Go.RowKit
set_option linter.unusedSimpArgs false
set_option linter.unusedVariables false
namespace Tr
def homesOf (l : List Nat) (cart : Int) : List Nat :=
  if l.length = 0 then [] else if cart < 1 then [] else if l.length = 1 then l
  else [l.getD (cart.toNat % l.length) 0, l.getD ((cart.toNat % l.length + 1) % l.length) 0]
def homesL (t : Tv) (cart : Int) : List Nat := homesOf (thoseL fun i => nodeB t 1 (i : Nat)) cart
set_option maxRecDepth 20000 in
set_option maxHeartbeats 4000000 in
theorem homes_any (W : World) (t : Tv) (cart : Int) (hc9 : cart ≤ 9223372036854775807) :
    Calls Try.prog 80 #[.agg t.cells.toArray, .int .i64 cart] W fun e W' => ∃ v, e = .returned v ∧ Nds W' W.heap.size v (homesL t cart) ∧ Below W.heap.size W W' := by
  unfold homesL
  have ba := (Below.refl W.heap.size W).alloc (Nat.le_refl _) (.cells t.cells.toArray 25)
  have hx : Blk (W.alloc (.cells t.cells.toArray 25)) W.heap.size 25 t.cells.toArray := Blk.new W _ _
  obtain ⟨w2, hw2⟩ : ∃ w2, w2 = W.alloc (.cells t.cells.toArray 25) := ⟨_, rfl⟩
  rw [← hw2] at ba hx
  have HB2 := Lib.hid ba
  have HC9 := Lib.hid hc9
  have hr0 : w2.rangeAt W.heap.size 0 t.cells := hx.range
  have HN := Lib.hid (nodes_any w2 t 1)
  obtain ⟨l, hl⟩ : ∃ l, l = thoseL fun i => nodeB t 1 (i : Nat) := ⟨_, rfl⟩
  have HL12 := Lib.hid (show l.length ≤ 12 by rw [hl]; exact those_le _ 12)
  rw [← hl] at HN ⊢
  clear ba hx hl hc9
  go_enter Try.func80, Try.ntmps80
  go_upto_region 1 with fail
  rw [← hw2]
  clear hw2
  go_upto_region 2 with (first | (refine wpList_load_mid rfl 25 _ rfl _ _ rfl t.cells _ hr0 Try.underlying25 rfl (tvinfo t) ?_) | (go_at_call 90; refine HN.out.mono ?_; rintro e w3 ⟨v, rfl, hN, hb⟩; have HN3 := Lib.hid hN; have HB3 := Lib.hid (HB2.out.trans (hb.mono HB2.out.size)); clear hN hb HN))
  clear hr0
  obtain ⟨A, c, hv⟩ := HN3.out.shape
  subst hv
  obtain ⟨n, hn⟩ : ∃ n, n = l.length := ⟨_, rfl⟩
  rw [← hn]
  have HNN := Lib.hid hn
  clear hn
  by_cases h0 : n = 0
  · have HO := Lib.hid (show homesOf l cart = [] by unfold homesOf; rw [if_pos (by rw [← HNN.out]; exact h0)])
    subst h0
    go_wp2_with fail
    go_ret
    exact ⟨_, rfl, by rw [HO.out]; exact Nds.nil _ _, HB3.out⟩
  · have i0 : ¬ ((n : Nat) : Int) = 0 := by omega
    have i1 : (((n : Nat) : Int) == 0) = false := by simpa using i0
    by_cases hc : cart < 1
    · have HO := Lib.hid (show homesOf l cart = [] by unfold homesOf; rw [if_neg (by rw [← HNN.out]; exact h0), if_pos hc])
      clear h0
      go_wp2_with fail
      go_ret
      exact ⟨_, rfl, by rw [HO.out]; exact Nds.nil _ _, HB3.out⟩
    · by_cases h1 : n = 1
      · have HO := Lib.hid (show homesOf l cart = l by unfold homesOf; rw [if_neg (by rw [← HNN.out]; exact h0), if_neg hc, if_pos (by rw [← HNN.out]; exact h1)])
        have i2 : (((n : Nat) : Int) == 1) = true := by rw [h1]; rfl
        have i3 : ((n : Nat) : Int) = 1 := by omega
        clear h0
        go_wp2_with fail
        go_ret
        have h := HN3.out.le HB2.out.size
        refine ⟨_, rfl, ?_, HB3.out⟩
        rw [HO.out]
        rw [show l.length = 1 by have := HNN.out; omega] at h
        exact h
      · obtain ⟨m, hm⟩ : ∃ m : Nat, m = cart.toNat := ⟨_, rfl⟩
        have HO := Lib.hid (show homesOf l cart = [l.getD (m % n) 0, l.getD ((m % n + 1) % n) 0] by unfold homesOf; rw [if_neg (by rw [← HNN.out]; exact h0), if_neg hc, if_neg (by rw [← HNN.out]; exact h1), ← HNN.out, ← hm])
        have hcm : cart = (m : Nat) := by omega
        subst hcm
        have HM := Lib.hid (show m ≤ 9223372036854775807 from by have := HC9.out; omega)
        have i2 : (((n : Nat) : Int) == 1) = false := by simpa using (show ¬ ((n : Nat) : Int) = 1 by omega)
        have i3 : ¬ ((n : Nat) : Int) = 1 := by omega
        have HN0 := Lib.hid (And.intro h0 h1)
        clear hm h0 h1
        go_upto_region 7 with fail
        obtain ⟨p1, hp1⟩ : ∃ p1, p1 = m % n := ⟨_, rfl⟩
        obtain ⟨q, hq⟩ : ∃ q, q = p1 + 1 := ⟨_, rfl⟩
        obtain ⟨p2, hp2⟩ : ∃ p2, p2 = q % n := ⟨_, rfl⟩
        have hn0 : 0 < n := by have := HN0.out; omega
        have e0 : ((m : Nat) : Int) % ((n : Nat) : Int) = ((p1 : Nat) : Int) := by rw [hp1]; exact (Int.natCast_emod m n).symm
        have k0 : ¬ n = 0 := by omega
        have hl1 : p1 < n := by rw [hp1]; exact Nat.mod_lt _ hn0
        have hl2 : p2 < n := by rw [hp2]; exact Nat.mod_lt _ hn0
        have hn12 : n ≤ 12 := by have := HNN.out; have := HL12.out; omega
        have e1 : wrap64 ((p1 : Int) + 1) = ((q : Nat) : Int) := wrap_n p1 q hq (by omega)
        have e2 : IntKind.i64.wrap ((p1 : Int) + 1) = ((q : Nat) : Int) := by rw [IntKind.wrap_i64]; omega
        have e3 : ((q : Nat) : Int) % ((n : Nat) : Int) = ((p2 : Nat) : Int) := by rw [hp2]; exact (Int.natCast_emod q n).symm
        have e4 : Int.tmod ((q : Nat) : Int) ((n : Nat) : Int) = ((p2 : Nat) : Int) := by rw [Int.tmod_eq_emod_of_nonneg (by omega)]; exact e3
        have k1 : ¬ ((p1 : Nat) : Int) < 0 := by omega
        have k2 : ((p1 : Nat) : Int) < (n : Nat) := by omega
        have k4 : ¬ ((p2 : Nat) : Int) < 0 := by omega
        have k5 : ((p2 : Nat) : Int) < (n : Nat) := by omega
        rw [e0]
        obtain ⟨a, ha⟩ : ∃ a, l[p1]? = some a := ⟨_, List.getElem?_eq_getElem (by rw [← HNN.out]; exact hl1)⟩
        obtain ⟨b, hb⟩ : ∃ b, l[p2]? = some b := ⟨_, List.getElem?_eq_getElem (by rw [← HNN.out]; exact hl2)⟩
        have HO2 := Lib.hid (show homesOf l (m : Nat) = [a, b] by
          rw [HO.out, ← hp1, ← hq, ← hp2, List.getD_eq_getElem?_getD, List.getD_eq_getElem?_getD, ha, hb]; rfl)
        obtain ⟨g, o, c', ev, hg1, ca⟩ := HN3.out.at_ ha
        obtain ⟨g', o', c'', ev', hg2, cb⟩ := HN3.out.at_ hb
        simp only [Value.slice.injEq, true_and] at ev ev'
        obtain ⟨rfl, rfl⟩ := ev
        obtain ⟨ev', rfl⟩ := ev'
        simp only [Option.some.injEq, Addr.mk.injEq, and_true] at ev'
        obtain ⟨rfl, rfl⟩ := ev'
        have hcc : w3.cell? ⟨g, o + p1, none⟩ = some (.int .i64 (a : Nat)) ∧ w3.cell? ⟨g, o + p2, none⟩ = some (.int .i64 (b : Nat)) := ⟨ca, cb⟩
        clear hp1 hq hp2 ha hb ca cb hg1 hg2 HO e0 hn12 i2 i3
        refine wp_region_tree (S := (fun w' => w'.cell? ⟨g, o + p1, none⟩ = some (.int .i64 (a : Nat)) ∧ w'.cell? ⟨g, o + p2, none⟩ = some (.int .i64 (b : Nat)))) (.take 0 (.take 1 (.take 2 (.take 3 (.take 4 (.take 5 (.take 6 (.take 7 (.take 8 (.take 9 (.take 10 (.take 11 (.one 12 (.take 13 .nil)))))))))))))) 9999 (by kernel_rfl) (by kernel_rfl) (by kernel_rfl) (by kernel_rfl) (by kernel_rfl) (fun _ _ d _ _ h => by cases d <;> exact h) hcc (fun hHeld => ?_); simp only [Tree.map, List.getElem?_toArray, List.getElem?_cons_zero, List.getElem?_cons_succ]
        (repeat (first | (refine wpTree.take (v := undef) (Or.inr ⟨by rfl, rfl⟩) ?_; simp only [Act.put, List.setIfInBounds_toArray, List.set_cons_zero, List.set_cons_succ]) | (refine wpTree.take (v := ?_) (Or.inl ⟨by rfl, ?_⟩) ?_; rotate_left; (focus (intro _ hS; (try dsimp only at hS); go_split_ands; (try subst hS); go_simp; (try (with_reducible rfl)); done)); simp only [Act.put, List.setIfInBounds_toArray, List.set_cons_zero, List.set_cons_succ])))
        have hcs := HN3
        have hb4 : Below w3.heap.size w3 (w3.drew.alloc (.cells #[.int .i64 (a : Nat), .int .i64 (b : Nat)] 3)) := ((Below.refl w3.heap.size w3).drew).alloc (Nat.le_refl _) _
        have hbk : (w3.drew.alloc (.cells #[.int .i64 (a : Nat), .int .i64 (b : Nat)] 3)).heap[w3.drew.heap.size]? = some (.cells #[.int .i64 (a : Nat), .int .i64 (b : Nat)] 3) := heap_alloc_new w3.drew _
        have HB4 := Lib.hid (HB3.out.trans (hb4.mono HB3.out.size))
        have HBK := Lib.hid hbk
        have HW4 := Lib.hid (And.intro (cell_next hb4 hcc.1) (cell_next hb4 hcc.2))
        refine wpTree.one (fun K hK => ?_)
        go_simp
        refine hK.out _ _ HW4.out (fun _ => ?_)
        clear hK K hHeld hb4 hbk hcc
        (try simp only [Act.put, List.setIfInBounds_toArray, List.set_cons_zero, List.set_cons_succ])
        (repeat (first | (refine wpTree.take (v := undef) (Or.inr ⟨by rfl, rfl⟩) ?_; simp only [Act.put, List.setIfInBounds_toArray, List.set_cons_zero, List.set_cons_succ]) | (refine wpTree.take (v := ?_) (Or.inl ⟨by rfl, ?_⟩) ?_; rotate_left; (focus (intro _ hS; (try dsimp only at hS); go_split_ands; (try subst hS); go_simp; (try (with_reducible rfl)); done)); simp only [Act.put, List.setIfInBounds_toArray, List.set_cons_zero, List.set_cons_succ])))
        refine wpTree.done ?_
        go_wp2_with fail
        go_ret
        refine ⟨_, rfl, ?_, HB4.out⟩
        rw [HO2.out]
        refine ⟨rfl, .inr ⟨w3.drew.heap.size, 0, 2, _, rfl, HB3.out.size, HBK.out, Nat.le_refl _, by decide, Nat.le_refl _, rfl⟩⟩
end Tr
end Go.Proofs.Ytohnhokddbeheaa

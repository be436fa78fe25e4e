/-
tree: Right.
-/
import Derived.Test.YtohnhokddbeheaaTr13
namespace Go.Proofs.Ytohnhokddbeheaa
open Go.RowKit
set_option linter.unusedSimpArgs false
set_option linter.unusedVariables false
namespace Tr
/-- All nodes that are there. -/
def allL (t : Tv) : List Nat := thoseL fun i => thereB t.k (i : Nat)
def joinN (t : Tv) (a b : Nat) : Bool := jnB t (a : Nat) (b : Nat)
/-- What Right says of a tree. -/
def RightP (t : Tv) (b : Bool) : Prop :=
  (anyB 12 t.k noKindB = true ∧ b = false) ∨
  (anyB 12 t.k noKindB = false ∧ t.es.length ≠ (allL t).length - 1 ∧ b = false) ∨
  (anyB 12 t.k noKindB = false ∧ t.es.length = (allL t).length - 1 ∧ allL t = [] ∧ b = true) ∨
  (anyB 12 t.k noKindB = false ∧ t.es.length = (allL t).length - 1 ∧ ∃ x c, (allL t)[0]? = some x ∧ (∀ n, c n = true ↔ Rch (joinN t) x n) ∧
    b = (decide ((thoseL c).length = (allL t).length) && !anyB (allL t).length (fun i => ((allL t).getD i 0 : Nat)) (fun n => !hangB t n)))
section
variable {w : World} {gb : Nat} {t : Tv}
set_option maxRecDepth 20000 in
theorem right1_any (hr : w.rangeAt gb 0 t.cells) (n : Int) :
    Calls Try.prog 51 #[.int .i64 n, .pointer (some ⟨gb, 0, none⟩)] w fun e w' => e = .returned (.bool (thereB t.k n)) ∧ Below w.heap.size w w' := by
  have HA := Lib.hid (there_any w t n)
  go_enter Try.func51, Try.ntmps51
  go_wp2_with (first | (refine wpList_load_mid rfl 25 _ rfl _ _ rfl t.cells _ hr Try.underlying25 rfl (tvinfo t) ?_) | (go_at_call 52; refine HA.out.mono ?_; rintro e w2 ⟨rfl, hb⟩; have HB2 := Lib.hid hb; clear hb HA))
  go_ret
  exact ⟨rfl, HB2.out⟩
set_option maxRecDepth 20000 in
theorem right2_any (hr : w.rangeAt gb 0 t.cells) (hrow : RowsOf ec 2 w t.A t.es) (hlen : t.es.length ≤ 1000000) (n : Int) :
    Calls Try.prog 56 #[.int .i64 n, .pointer (some ⟨gb, 0, none⟩)] w fun e w' => e = .returned (.bool (!hangB t n)) ∧ Below w.heap.size w w' := by
  have HA := Lib.hid (mayhang_any w t hrow hlen n)
  clear hrow hlen
  go_enter Try.func56, Try.ntmps56
  go_wp2_with (first | (refine wpList_load_mid rfl 25 _ rfl _ _ rfl t.cells _ hr Try.underlying25 rfl (tvinfo t) ?_) | (go_at_call 57; refine HA.out.mono ?_; rintro e w2 ⟨rfl, hb⟩; have HB2 := Lib.hid hb; clear hb HA))
  go_ret
  exact ⟨rfl, HB2.out⟩
end
set_option maxRecDepth 20000 in
set_option maxHeartbeats 8000000 in
theorem right_any (W : World) (t : Tv) (hr : RowsOf ec 2 W t.A t.es) (hlen : t.es.length ≤ 1000000) :
    Calls Try.prog 24 #[.agg t.cells.toArray] W fun e W' => ∃ b, e = .returned (.bool b) ∧ RightP t b ∧ Below W.heap.size W W' := by
  have HR := Lib.hid hr
  have HLE := Lib.hid hlen
  have hb2 := (Below.refl W.heap.size W).alloc (Nat.le_refl _) (.cells t.cells.toArray 25)
  have hx : Blk (W.alloc (.cells t.cells.toArray 25)) W.heap.size 25 t.cells.toArray := Blk.new W _ _
  obtain ⟨w2, hw2⟩ : ∃ w2, w2 = W.alloc (.cells t.cells.toArray 25) := ⟨_, rfl⟩
  rw [← hw2] at hb2 hx
  have HB2 := Lib.hid hb2
  have HX2 := Lib.hid hx
  have HTH := Lib.hid (those_any 51 #[.pointer (some ⟨W.heap.size, 0, none⟩)] (fun i => thereB t.k (i : Nat)) w2 (fun args w => run_enter Try.func51 (by kernel_rfl) (by kernel_rfl) args w) (fun w hb i _ _ => right1_any (hx.next hb).range (i : Nat)))
  have hmf : ∀ (fn : Fn) (first cap : Array Value) (w : World), (Instr.makeFunc fn first cap).run Try.prog w = .ok (.func fn first cap) w := fun _ _ _ _ => rfl
  have HMF := Lib.hid hmf
  obtain ⟨l, hl⟩ : ∃ l, l = allL t := ⟨_, rfl⟩
  have HL := Lib.hid hl
  have HL12 := Lib.hid (show l.length ≤ 12 by rw [hl]; unfold allL thoseL; exact those_le _ 12)
  clear hb2 hx hmf hr hlen hl
  go_enter Try.func24, Try.ntmps24
  go_upto_region 1 with fail
  rw [← hw2]
  clear hw2
  have hmf := HMF.out
  go_upto_region 2 with (go_at_call 49; refine HTH.out.mono ?_; rintro e w3 ⟨v, rfl, hN, hb⟩; have HN3 := Lib.hid (show Nds w3 w2.heap.size v l by rw [HL.out]; exact hN); have HB3 := Lib.hid hb; clear hN hb HTH)
  clear hmf
  obtain ⟨A, cp, ev⟩ := HN3.out.shape
  subst ev
  obtain ⟨la, hla⟩ : ∃ la, la = l.length := ⟨_, rfl⟩
  rw [← hla]
  have HLA := Lib.hid hla
  have HX3 := Lib.hid (HX2.out.next HB3.out)
  have HBW := Lib.hid (HB2.out.trans (HB3.out.mono HB2.out.size))
  have HCF := Lib.hid (contains_any w3 54 #[] (some ⟨W.heap.size, 0, none⟩) 12 12 t.k noKindB (by decide) (fun args w => run_enter Try.func54 (by kernel_rfl) (by kernel_rfl) args w) (fun i hi => ⟨_, _, rfl, by rw [Nat.zero_add, HX3.out.cell, List.getElem?_toArray]; exact tv_get t hi⟩) (fun w hb i hi => (nokind_any w (t.k i)).mono (by rintro e w' ⟨rfl, rfl⟩; exact ⟨rfl, Below.refl _ _⟩)))
  obtain ⟨nk, hnk⟩ : ∃ nk, nk = anyB 12 t.k noKindB := ⟨_, rfl⟩
  rw [← hnk] at HCF
  have HNK := Lib.hid hnk
  obtain ⟨ne, hne⟩ : ∃ ne, ne = t.es.length := ⟨_, rfl⟩
  have HNE := Lib.hid hne
  clear hla hnk hne
  cases nk with
  | true =>
    go_wp2_with (go_at_call 53; refine HCF.out.mono ?_; rintro e w4 ⟨rfl, hb⟩; have HB4 := Lib.hid (HBW.out.trans (hb.mono HBW.out.size)); clear hb HCF)
    go_ret
    exact ⟨_, rfl, Or.inl ⟨HNK.out.symm, rfl⟩, HB4.out⟩
  | false =>
    have hla12 : la ≤ 12 := by have := HLA.out; have := HL12.out; omega
    have e1 : max (wrap64 ((la : Int) - 1)) 0 = ((la - 1 : Nat) : Int) := by unfold wrap64; omega
    have HNF := Lib.hid (show anyB 12 t.k noKindB = false from HNK.out.symm)
    by_cases hne : ne = la - 1
    · have t1 : ((ne : Int) != max (wrap64 ((la : Int) - 1)) 0) = false := by rw [e1, hne]; simp
      have HEQ := Lib.hid (show t.es.length = (allL t).length - 1 by rw [← HNE.out, ← HL.out, ← HLA.out]; exact hne)
      by_cases h0 : la = 0
      · have t2 : ((la : Int) == 0) = true := by rw [h0]; rfl
        have H0 := Lib.hid (show allL t = [] from List.eq_nil_of_length_eq_zero (by rw [← HL.out, ← HLA.out]; exact h0))
        clear e1 hne hla12 h0
        go_wp2_with (go_at_call 53; refine HCF.out.mono ?_; rintro e w4 ⟨rfl, hb⟩; have HB4 := Lib.hid hb; have c12 : w4.cell? ⟨W.heap.size, 12, none⟩ = some (.slice t.A ne t.c) := (by rw [(HX3.out.next hb).cell, List.getElem?_toArray, tv_12, HNE.out]); clear hb HCF)
        go_ret
        exact ⟨_, rfl, Or.inr (Or.inr (Or.inl ⟨HNF.out, HEQ.out, H0.out, rfl⟩)), HBW.out.trans (HB4.out.mono HBW.out.size)⟩
      · have t2 : ((la : Int) == 0) = false := by simpa using h0
        obtain ⟨x, hx⟩ : ∃ x, l[0]? = some x := ⟨_, List.getElem?_eq_getElem (by rw [← HLA.out]; omega)⟩
        obtain ⟨q, qo, cq, ev, hq, cx⟩ := HN3.out.at_ hx
        simp only [Value.slice.injEq, true_and] at ev
        obtain ⟨rfl, rfl⟩ := ev
        have HXX := Lib.hid hx
        have HCX := Lib.hid cx
        have hx12 := those_mem.1 (show x ∈ thoseL (fun i => thereB t.k (i : Nat)) by have h := List.mem_of_getElem? hx; rw [HL.out] at h; exact h)
        have HX12 := Lib.hid (And.intro hx12.1 hx12.2.1)
        have n1 : 0 < la := by omega
        have n2 : (0 : Int) < ((la : Nat) : Int) := by omega
        clear e1 hne hla12 hx cx hx12 hq
        go_upto_region 6 with (go_at_call 53; refine HCF.out.mono ?_; rintro e w4 ⟨rfl, hb⟩; have HB4 := Lib.hid hb; have c12 : w4.cell? ⟨W.heap.size, 12, none⟩ = some (.slice t.A ne t.c) := (by rw [(HX3.out.next hb).cell, List.getElem?_toArray, tv_12, HNE.out]); clear hb HCF)
        clear t1 t2 c12
        have HBX := Lib.hid (HBW.out.trans (HB4.out.mono HBW.out.size))
        have hcc : w4.cell? ⟨q, qo, none⟩ = some (.int .i64 (x : Nat)) ∧ w4.rangeAt W.heap.size 0 t.cells := ⟨cell_next HB4.out HCX.out, (HX3.out.next HB4.out).range⟩
        have HCC := Lib.hid hcc
        have HED := Lib.hid (edges_any w4.drew t (HR.out.next HBX.out.drew) HLE.out)
        refine wp_region_tree (S := (fun w' => w'.cell? ⟨q, qo, none⟩ = some (.int .i64 (x : Nat)) ∧ w'.rangeAt W.heap.size 0 t.cells)) (.take 0 (.take 1 (.take 2 (.take 3 (.take 7 (.take 8 (.one 4 (.one 5 (.take 6 (.take 9 (.take 10 .nil))))))))))) 9999 (by kernel_rfl) (by kernel_rfl) (by kernel_rfl) (by kernel_rfl) (by kernel_rfl) (fun _ _ d _ _ h => by cases d <;> exact h) hcc (fun hHeld => ?_); simp only [Tree.map, List.getElem?_toArray, List.getElem?_cons_zero, List.getElem?_cons_succ]
        (repeat (first | (refine wpTree.take (v := undef) (Or.inr ⟨by rfl, rfl⟩) ?_; simp only [Act.put, List.setIfInBounds_toArray, List.set_cons_zero, List.set_cons_succ]) | (refine wpTree.take (v := .agg t.cells.toArray) (yieldsIf_load_mid rfl 25 _ rfl _ _ rfl t.cells _ (fun _ hS => hS.2) Try.underlying25 rfl (tvinfo t)) ?_; simp only [Act.put, List.setIfInBounds_toArray, List.set_cons_zero, List.set_cons_succ]) | (refine wpTree.take (v := ?_) (Or.inl ⟨by rfl, ?_⟩) ?_; rotate_left; (focus (intro _ hS; (try dsimp only at hS); go_split_ands; (try subst hS); go_simp; (try (with_reducible rfl)); done)); simp only [Act.put, List.setIfInBounds_toArray, List.set_cons_zero, List.set_cons_succ])))
        clear hcc n1 n2
        refine wpTree.one (fun K hK => ?_)
        go_simp
        go_at_call 48
        refine HED.out.mono ?_
        rintro e w5 ⟨gt, gf, rfl, hE⟩
        have hb5 : Below w4.heap.size w4 w5 := (Below.refl w4.heap.size w4).drew.trans hE.bel
        have HB5 := Lib.hid hb5
        refine hK.out _ _ ⟨cell_next hb5 HCC.out.1, rng_next HCC.out.2 hb5⟩ (fun _ => ?_)
        have HRC := Lib.hid (reach_any w5 70 #[.pointer (some ⟨gt, 0, none⟩), .pointer (some ⟨gf, 0, none⟩)] (joinN t) x HX12.out.1 HX12.out.2 (fun args w => run_enter Try.func70 (by kernel_rfl) (by kernel_rfl) args w) (fun w hb a b _ _ _ _ => edged1_any w t (hE.bt.next hb) (hE.bf.next hb) (a : Nat) (b : Nat)))
        clear hK K hHeld hb5 hE HED
        (try simp only [Act.put, List.setIfInBounds_toArray, List.set_cons_zero, List.set_cons_succ])
        refine wpTree.one (fun K hK => ?_)
        go_simp
        go_at_call 55
        refine HRC.out.mono ?_
        rintro e w6 ⟨v6, c, rfl, hN, hc, hb⟩
        have hb6 : Below w4.heap.size w4 w6 := HB5.out.trans (hb.mono HB5.out.size)
        have HB6 := Lib.hid hb6
        obtain ⟨A6, c6, ev6⟩ := hN.shape
        subst ev6
        have HC6 := Lib.hid hc
        obtain ⟨lc, hlc⟩ : ∃ lc, lc = (thoseL c).length := ⟨_, rfl⟩
        rw [← hlc]
        have HLC := Lib.hid hlc
        refine hK.out _ _ ⟨cell_next hb6 HCC.out.1, rng_next HCC.out.2 hb6⟩ (fun _ => ?_)
        clear hK K hN hc hb hb6 hlc HRC
        (try simp only [Act.put, List.setIfInBounds_toArray, List.set_cons_zero, List.set_cons_succ])
        (repeat (first | (refine wpTree.take (v := undef) (Or.inr ⟨by rfl, rfl⟩) ?_; simp only [Act.put, List.setIfInBounds_toArray, List.set_cons_zero, List.set_cons_succ]) | (refine wpTree.take (v := ?_) (Or.inl ⟨by rfl, ?_⟩) ?_; rotate_left; (focus (intro _ hS; (try dsimp only at hS); go_split_ands; (try subst hS); go_simp; (try (with_reducible rfl)); done)); simp only [Act.put, List.setIfInBounds_toArray, List.set_cons_zero, List.set_cons_succ])))
        refine wpTree.done ?_
        have HBY := Lib.hid (HBX.out.trans (HB6.out.mono HBX.out.size))
        have HCF2 := Lib.hid (contains_any w6 56 #[.pointer (some ⟨W.heap.size, 0, none⟩)] (some ⟨q, qo, none⟩) la cp (fun i => (l.getD i 0 : Nat)) (fun n => !hangB t n) (by have := HLA.out; have := HL12.out; omega) (fun args w => run_enter Try.func56 (by kernel_rfl) (by kernel_rfl) args w) (fun i hi => by
          obtain ⟨y, hy⟩ : ∃ y, l[i]? = some y := ⟨_, List.getElem?_eq_getElem (by rw [← HLA.out]; exact hi)⟩
          obtain ⟨q', qo', cq', ev, _, cy⟩ := HN3.out.at_ hy
          simp only [Value.slice.injEq, true_and, Option.some.injEq, Addr.mk.injEq, and_true] at ev
          obtain ⟨⟨rfl, rfl⟩, _⟩ := ev
          exact ⟨_, _, rfl, by rw [List.getD_eq_getElem?_getD, hy]; exact cell_next HB6.out (cell_next HB4.out cy)⟩) (fun w hb i hi => right2_any (rng_next (rng_next HCC.out.2 HB6.out) hb) (HR.out.next (HBY.out.trans (hb.mono HBY.out.size))) HLE.out _))
        have hmf := HMF.out
        by_cases hcl : lc = la
        · have t3 : ((lc : Int) == (la : Int)) = true := by rw [hcl]; simp
          have t4 : (lc : Int) = (la : Int) := by rw [hcl]
          have HD := Lib.hid (show decide ((thoseL c).length = (allL t).length) = true from decide_eq_true (by rw [← HLC.out, ← HL.out, ← HLA.out]; exact hcl))
          clear h0
          go_wp2_with (go_at_call 53; refine HCF2.out.mono ?_; rintro e w7 ⟨rfl, hb⟩; have HB7 := Lib.hid (HBY.out.trans (hb.mono HBY.out.size)); clear hb HCF2)
          go_ret
          refine ⟨_, rfl, Or.inr (Or.inr (Or.inr ⟨HNF.out, HEQ.out, x, c, by rw [← HL.out]; exact HXX.out, HC6.out, ?_⟩)), HB7.out⟩
          rw [HD.out, Bool.true_and, ← HL.out, ← HLA.out]
          simp only [List.getD_eq_getElem?_getD]
        · have t3 : ((lc : Int) == (la : Int)) = false := by simpa using (show ¬ ((lc : Nat) : Int) = ((la : Nat) : Int) by omega)
          have HD := Lib.hid (show decide ((thoseL c).length = (allL t).length) = false from decide_eq_false (by rw [← HLC.out, ← HL.out, ← HLA.out]; exact hcl))
          clear h0
          go_wp2_with fail
          go_ret
          refine ⟨_, rfl, Or.inr (Or.inr (Or.inr ⟨HNF.out, HEQ.out, x, c, by rw [← HL.out]; exact HXX.out, HC6.out, ?_⟩)), HBY.out⟩
          rw [HD.out, Bool.false_and]
    · have t1 : ((ne : Int) != max (wrap64 ((la : Int) - 1)) 0) = true := by rw [e1]; simp; omega
      have HEQ := Lib.hid (show t.es.length ≠ (allL t).length - 1 by rw [← HNE.out, ← HL.out, ← HLA.out]; exact hne)
      clear e1 hne hla12
      go_wp2_with (go_at_call 53; refine HCF.out.mono ?_; rintro e w4 ⟨rfl, hb⟩; have HB4 := Lib.hid hb; have c12 : w4.cell? ⟨W.heap.size, 12, none⟩ = some (.slice t.A ne t.c) := (by rw [(HX3.out.next hb).cell, List.getElem?_toArray, tv_12, HNE.out]); clear hb HCF)
      go_ret
      exact ⟨_, rfl, Or.inr (Or.inl ⟨HNF.out, HEQ.out, rfl⟩), HBW.out.trans (HB4.out.mono HBW.out.size)⟩
end Tr
end Go.Proofs.Ytohnhokddbeheaa

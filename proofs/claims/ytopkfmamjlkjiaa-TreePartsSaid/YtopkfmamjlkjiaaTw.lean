/-
tree: TreeParts, walked.
-/
import Derived.Test.YtopkfmamjlkjiaaTs3
namespace Go.Proofs.Ytopkfmamjlkjiaa
open Go.RowKit
set_option linter.unusedSimpArgs false
set_option linter.unusedVariables false
namespace Tr
/-- Thirteen counts. -/
def tl (m : Nat → Nat) : List Value := (List.range 13).map fun i => .int .i64 ((m i : Nat) : Int)
theorem tl_len (m : Nat → Nat) : (tl m).length = 13 := by simp [tl]
theorem tl_get (m : Nat → Nat) {i : Nat} (h : i < 13) : (tl m)[i]? = some (.int .i64 ((m i : Nat) : Int)) := by
  unfold tl
  rw [List.getElem?_map, List.getElem?_range h]; rfl
theorem tl_zero : (tl fun _ => 0).toArray = #[.int .i64 0, .int .i64 0, .int .i64 0, .int .i64 0, .int .i64 0, .int .i64 0, .int .i64 0, .int .i64 0, .int .i64 0, .int .i64 0, .int .i64 0, .int .i64 0, .int .i64 0] := by
  unfold tl
  rfl
def tU (m : Nat → Nat) (n : Nat) : Nat → Nat := fun i => if i = n then 1 else m i
theorem tl_set (m : Nat → Nat) (n : Nat) : (tl m).toArray.setIfInBounds n (.int .i64 1) = (tl (tU m n)).toArray := by
  rw [List.setIfInBounds_toArray]
  congr 1
  apply List.ext_getElem?
  intro j
  rw [List.getElem?_set]
  by_cases hj : j < 13
  · rw [tl_get _ hj, tl_get _ hj, tl_len]
    unfold tU
    by_cases h : n = j
    · subst h; simp [hj]
    · rw [if_neg h, if_neg (Ne.symm h)]
  · have h1 : ∀ g, (tl g)[j]? = none := fun g => List.getElem?_eq_none (by rw [tl_len]; omega)
    rw [h1, h1, tl_len]
    by_cases h : n = j
    · subst h; simp [hj]
    · simp [h]
attribute [irreducible] tl
/-- What TreeParts keeps: a tree's box, the counts, the neighbours. -/
structure CM (W w : World) (gx gT : Nat) (t : Tv) (v : Value) (L : List Nat) (m : Nat → Nat) : Prop where
  bx : Blk w gx 25 t.cells.toArray
  bT : Blk w gT 42 (tl m).toArray
  rl : Nds w W.heap.size v L
  lT : W.heap.size ≤ gT
  bel : Below W.heap.size W w
section
variable {W w w' : World} {gx gT : Nat} {t : Tv} {v : Value} {L : List Nat} {m : Nat → Nat}
theorem CM.next (h : CM W w gx gT t v L m) (hb : Below w.heap.size w w') : CM W w' gx gT t v L m :=
  ⟨h.bx.next hb, h.bT.next hb, h.rl.next hb, h.lT, h.bel.trans (hb.mono h.bel.size)⟩
theorem nds_set {l : List Nat} {B : Nat} {u : Value} (h : CM W w gx gT t v L m) (hu : Nds w B u l) (n : Nat) (x : Value) : Nds (w.setCell ⟨gT, n, none⟩ x) B u l :=
  hu.keep fun k e => Below.heap_setCell w ⟨gT, n, none⟩ x k (fun e2 => nds_ne hu h.bT (by decide) (by subst e2; exact e.symm))
theorem CM.put (h : CM W w gx gT t v L m) (n : Nat) : CM W (w.setCell ⟨gT, n, none⟩ (.int .i64 1)) gx gT t v L (tU m n) := by
  refine ⟨h.bx.far (blk_ne h.bx h.bT (by decide)) _, ?_, nds_set h h.rl n _, h.lT, Below.setCell h.bel h.lT _⟩
  have := h.bT.setCell n (.int .i64 1)
  rw [tl_set] at this
  exact this
end
/-- One for those that are so, nought for the others. -/
def TQ (m : Nat → Nat) (S : Nat → Prop) : Prop := ∀ k, k < 13 → (m k = 1 ∧ S k) ∨ (m k = 0 ∧ ¬ S k)
theorem tq_put {m : Nat → Nat} {S : Nat → Prop} (h : TQ m S) (n : Nat) : TQ (tU m n) fun k => S k ∨ k = n := by
  intro k hk
  unfold tU
  by_cases e : k = n
  · rw [if_pos e]; exact .inl ⟨rfl, .inr e⟩
  · rw [if_neg e]
    rcases h k hk with ⟨h1, h2⟩ | ⟨h1, h2⟩
    · exact .inl ⟨h1, .inl h2⟩
    · exact .inr ⟨h1, fun h => h.elim h2 e⟩
theorem tq_congr {m : Nat → Nat} {S S' : Nat → Prop} (h : TQ m S) (e : ∀ k, S k ↔ S' k) : TQ m S' := fun k hk => (h k hk).imp (fun h => ⟨h.1, (e k).1 h.2⟩) (fun h => ⟨h.1, fun h2 => h.2 ((e k).2 h2)⟩)
theorem tq_no {m : Nat → Nat} {S : Nat → Prop} (h : TQ m S) {k : Nat} (hk : k < 13) (hn : ¬ S k) : m k = 0 := by
  rcases h k hk with h | h
  · exact absurd h.2 hn
  · exact h.1
set_option maxRecDepth 20000 in
set_option maxHeartbeats 16000000 in
theorem parts_walk (W : World) (t : Tv) (hr : RowsOf ec 2 W t.A t.es) (node : Int) :
    Calls Try.prog 4 #[.agg t.cells.toArray, .int .i64 node] W fun e W' => e = .returned (.bool true) ∧ Below W.heap.size W W' := by
  have HR := Lib.hid hr
  have bb := (Below.refl W.heap.size W).alloc (Nat.le_refl _) (.cells t.cells.toArray 25)
  have hx : Blk (W.alloc (.cells t.cells.toArray 25)) W.heap.size 25 t.cells.toArray := Blk.new W _ _
  obtain ⟨w2, hw2⟩ : ∃ w2, w2 = W.alloc (.cells t.cells.toArray 25) := ⟨_, rfl⟩
  rw [← hw2] at bb hx
  have HB2 := Lib.hid bb
  have HX2 := Lib.hid hx
  have hr0 : w2.rangeAt W.heap.size 0 t.cells := hx.range
  clear bb hx hr
  obtain ⟨bt, hbt⟩ := right_ex t
  have HBT := Lib.hid hbt
  have HG := Lib.hid (great_any w2 t)
  clear hbt
  go_enter Try.func4, Try.ntmps4
  go_upto_region 1 with fail
  rw [← hw2]
  clear hw2
  obtain ⟨gx, hgx⟩ : ∃ gx, gx = W.heap.size := ⟨_, rfl⟩
  rw [← hgx] at HX2 hr0
  (try rw [← hgx])
  clear hgx
  cases hG : decide (20 < t.es.length) with
  | true =>
    rw [hG] at HG
    go_wp2_with (first | (refine load_midg rfl 25 _ rfl _ _ rfl t.cells _ hr0 Try.underlying25 rfl (tvinfo t) ?_; (try simp only [Act.put, List.setIfInBounds_toArray, List.set_cons_zero, List.set_cons_succ])) | (go_at_call 11; refine HG.out.mono ?_; rintro e w3 ⟨rfl, hb⟩; have HB3 := Lib.hid (HB2.out.trans (hb.mono HB2.out.size)); have HX3 := Lib.hid (HX2.out.next hb); have hr0 := HX3.out.range; have HAL := Lib.hid (alive18_any w3); clear hb HG) | (go_at_call 12; refine HAL.out.mono ?_; rintro e w6 ⟨rfl, hb⟩; have HB6 := Lib.hid (HB3.out.trans (hb.mono HB3.out.size)); clear hb HAL))
    go_ret
    exact ⟨rfl, HB6.out⟩
  | false =>
  rw [hG] at HG
  have HLE := Lib.hid (show t.es.length ≤ 1000000 by have := of_decide_eq_false hG; omega)
  clear hG
  cases bt with
  | false =>
    go_wp2_with (first | (refine load_midg rfl 25 _ rfl _ _ rfl t.cells _ hr0 Try.underlying25 rfl (tvinfo t) ?_; (try simp only [Act.put, List.setIfInBounds_toArray, List.set_cons_zero, List.set_cons_succ])) | (go_at_call 11; refine HG.out.mono ?_; rintro e w3 ⟨rfl, hb⟩; have HB3 := Lib.hid (HB2.out.trans (hb.mono HB2.out.size)); have HX3 := Lib.hid (HX2.out.next hb); have hr0 := HX3.out.range; have HRI := Lib.hid (right_is w3 (HR.out.next HB3.out) HLE.out HBT.out); have HAL := Lib.hid (alive18_any w3); clear hb HG) | (go_at_call 21; refine HRI.out.mono ?_; rintro e w4 ⟨rfl, hb⟩; have HB4 := Lib.hid (HB3.out.trans (hb.mono HB3.out.size)); have HX4 := Lib.hid (HX3.out.next hb); have hr0 := HX4.out.range; have HAL := Lib.hid (alive18_any w4); clear hb HRI) | (go_at_call 12; refine HAL.out.mono ?_; rintro e w6 ⟨rfl, hb⟩; have HB6 := Lib.hid (HB4.out.trans (hb.mono HB4.out.size)); clear hb HAL))
    go_ret
    exact ⟨rfl, HB6.out⟩
  | true =>
  go_upto_region 4 with (first | (refine load_midg rfl 25 _ rfl _ _ rfl t.cells _ hr0 Try.underlying25 rfl (tvinfo t) ?_; (try simp only [Act.put, List.setIfInBounds_toArray, List.set_cons_zero, List.set_cons_succ])) | (go_at_call 11; refine HG.out.mono ?_; rintro e w3 ⟨rfl, hb⟩; have HB3 := Lib.hid (HB2.out.trans (hb.mono HB2.out.size)); have HX3 := Lib.hid (HX2.out.next hb); have hr0 := HX3.out.range; have HRI := Lib.hid (right_is w3 (HR.out.next HB3.out) HLE.out HBT.out); have HAL := Lib.hid (alive18_any w3); clear hb HG) | (go_at_call 21; refine HRI.out.mono ?_; rintro e w4 ⟨rfl, hb⟩; have HB4 := Lib.hid (HB3.out.trans (hb.mono HB3.out.size)); have HX4 := Lib.hid (HX3.out.next hb); have hr0 := HX4.out.range; have HAL := Lib.hid (alive18_any w4); clear hb HRI))
  clear hr0
  rw [← tl_zero]
  obtain ⟨w5, hw5⟩ : ∃ w5, w5 = w4.alloc (.cells (tl fun _ => 0).toArray 42) := ⟨_, rfl⟩
  have hb5 : Below w4.heap.size w4 w5 := by rw [hw5]; exact (Below.refl _ _).alloc (Nat.le_refl _) _
  have ht5 : Blk w5 w4.heap.size 42 (tl fun _ => 0).toArray := by rw [hw5]; exact Blk.new _ _ _
  rw [← hw5]
  clear hw5
  obtain ⟨gT, hgT⟩ : ∃ gT, gT = w4.heap.size := ⟨_, rfl⟩
  rw [← hgT] at ht5
  (try rw [← hgT])
  have HT5 := Lib.hid (show Blk w5 gT 42 (tl fun _ => 0).toArray ∧ W.heap.size ≤ gT from ⟨ht5, by rw [hgT]; exact HB4.out.size⟩)
  have HX5 := Lib.hid (HX4.out.next hb5)
  have HB5 := Lib.hid (HB4.out.trans (hb5.mono HB4.out.size))
  have hr0 : w5.rangeAt gx 0 t.cells := HX5.out.range
  clear hb5 ht5 hgT
  obtain ⟨L, hL⟩ : ∃ L, L = nextL t node := ⟨_, rfl⟩
  have HL := Lib.hid (show (∀ m : Nat, m ∈ L ↔ jnB t node (m : Nat) = true) ∧ L.Nodup ∧ L.length ≤ 12 from ⟨fun m => by
    rw [hL, ← next_mem t node (m : Nat)]
    exact ⟨fun h => ⟨m, h, rfl⟩, fun ⟨k, h1, h2⟩ => by rw [show m = k by omega]; exact h1⟩, by rw [hL]; unfold nextL thoseL; exact ⟨those_nodup _ 12, those_le _ 12⟩⟩)
  have HN1 := Lib.hid (show Calls Try.prog 22 #[.agg t.cells.toArray, .int .i64 node] w5 fun e W' => ∃ v, e = .returned v ∧ Nds W' w5.heap.size v L ∧ Below w5.heap.size w5 W' by rw [hL]; exact next_any w5 t (HR.out.next HB5.out) HLE.out node)
  clear hL
  go_upto_region 5 with (first | (refine load_midg rfl 25 _ rfl _ _ rfl t.cells _ hr0 Try.underlying25 rfl (tvinfo t) ?_; (try simp only [Act.put, List.setIfInBounds_toArray, List.set_cons_zero, List.set_cons_succ])) | (go_at_call 22; refine HN1.out.mono ?_; rintro e w6 ⟨v6, rfl, hN, hb⟩; have HM := Lib.hid (show CM W w6 gx gT t v6 L (fun _ => 0) from ⟨HX5.out.next hb, HT5.out.1.next hb, hN.le HB5.out.size, HT5.out.2, HB5.out.trans (hb.mono HB5.out.size)⟩); clear hb hN HN1))
  clear hr0 HX2 HX3 HX4 HX5 HB2 HB3 HB4 HB5 HT5 HAL
  obtain ⟨Al, cl, hv⟩ := HM.out.rl.shape
  subst hv
  obtain ⟨nL, hnL⟩ : ∃ n, n = L.length := ⟨_, rfl⟩
  rw [← hnL] at HM
  (try rw [← hnL])
  have HNL := Lib.hid hnL
  clear hnL
  go_upto_region 6 with fail
  go_loopw [7] (fun i wr => ∃ j : Nat, j ≤ nL ∧ i = .int .i64 j ∧ ∃ m, CM W wr gx gT t (.slice Al nL cl) L m ∧ TQ m (fun k => ∃ x ∈ L.take j, Bey (joinN t) node.toNat x k)) (fun i _ => nL - (intOf i).toNat)
  case atStart => exact ⟨0, Nat.zero_le _, rfl, _, HM.out, fun k hk => .inr ⟨rfl, by simp⟩⟩
  case round =>
    clear HM
    obtain ⟨j, hj, rfl, m, hM, hT⟩ := hrel
    have HM := Lib.hid hM
    have HT := Lib.hid hT
    clear hM hT
    by_cases hlt : j < nL
    · have i1 : (j : Int) < (nL : Nat) := by omega
      have i2 : ¬ (j : Int) < 0 := by omega
      obtain ⟨jj, hjj⟩ : ∃ jj, jj = j + 1 := ⟨_, rfl⟩
      have HW := Lib.hid (wrap_n j jj hjj (by have := HNL.out; have := HL.out; omega))
      have HJ := Lib.hid (And.intro hjj hlt)
      obtain ⟨x, hx⟩ : ∃ x, L[j]? = some x := ⟨_, List.getElem?_eq_getElem (by rw [← HNL.out]; exact hlt)⟩
      have HXX := Lib.hid hx
      have hjx := (HL.out.1 x).1 (List.mem_of_getElem? hx)
      obtain ⟨s, hs, -, -⟩ := there_nat (jn_there hjx).1
      subst hs
      obtain ⟨q, qo, qc, ev, _, cm⟩ := HM.out.rl.at_ hx
      simp only [Value.slice.injEq] at ev
      obtain ⟨rfl, -, rfl⟩ := ev
      have HBY := Lib.hid (beyond_nat wr.drew t (HR.out.next HM.out.bel.drew) HLE.out s x)
      have hcc : wr.rangeAt gx 0 t.cells ∧ wr.cell? ⟨q, qo + j, none⟩ = some (.int .i64 (x : Nat)) := ⟨HM.out.bx.range, cm⟩
      have HCC := Lib.hid hcc
      clear hj hlt hjj hx hjx cm
      go_upto_region 8 with fail
      refine wp_region_tree (S := (fun w' => w'.rangeAt gx 0 t.cells ∧ w'.cell? ⟨q, qo + j, none⟩ = some (.int .i64 (x : Nat)))) (.take 0 (.take 1 (.take 2 (.take 3 (.take 4 (.take 5 (.one 6 (.take 7 .nil)))))))) 9999 (by kernel_rfl) (by kernel_rfl) (by kernel_rfl) (by kernel_rfl) (by kernel_rfl) (fun _ _ d _ _ h => by cases d <;> exact h) hcc (fun hHeld => ?_); simp only [Tree.map, List.getElem?_toArray, List.getElem?_cons_zero, List.getElem?_cons_succ]
      (repeat (first | (refine wpTree.take (v := undef) (Or.inr ⟨by rfl, rfl⟩) ?_; simp only [Act.put, List.setIfInBounds_toArray, List.set_cons_zero, List.set_cons_succ]) | (refine wpTree.take (v := .agg t.cells.toArray) (yieldsIf_load_mid rfl 25 _ rfl _ _ rfl t.cells _ (fun _ hS => hS.1) Try.underlying25 rfl (tvinfo t)) ?_; simp only [Act.put, List.setIfInBounds_toArray, List.set_cons_zero, List.set_cons_succ]) | (refine wpTree.take (v := ?_) (Or.inl ⟨by rfl, ?_⟩) ?_; rotate_left; (focus (intro _ hS; (try dsimp only at hS); go_split_ands; (try subst hS); go_simp; (try (with_reducible rfl)); done)); simp only [Act.put, List.setIfInBounds_toArray, List.set_cons_zero, List.set_cons_succ])))
      clear hcc
      refine wpTree.one (fun K hK => ?_)
      go_simp
      go_at_call 23
      refine HBY.out.mono ?_
      rintro e w9 ⟨vB, bl, rfl, hN, hbl, hmem, hnd, hb⟩
      have hb9 : Below wr.heap.size wr w9 := (Below.refl wr.heap.size wr).drew.trans hb
      have HM9 := Lib.hid (HM.out.next hb9)
      have HBL := Lib.hid (show Nds w9 W.heap.size vB bl from hN.le HM.out.bel.drew.size)
      have HBM := Lib.hid (And.intro hbl (And.intro hmem hnd))
      refine hK.out _ _ ⟨rng_next HCC.out.1 hb9, cell_next hb9 HCC.out.2⟩ (fun _ => ?_)
      clear hK K hHeld hb hb9 hN hbl hmem hnd HBY HM HCC
      (try simp only [Act.put, List.setIfInBounds_toArray, List.set_cons_zero, List.set_cons_succ])
      (repeat (first | (refine wpTree.take (v := undef) (Or.inr ⟨by rfl, rfl⟩) ?_; simp only [Act.put, List.setIfInBounds_toArray, List.set_cons_zero, List.set_cons_succ]) | (refine wpTree.take (v := ?_) (Or.inl ⟨by rfl, ?_⟩) ?_; rotate_left; (focus (intro _ hS; (try dsimp only at hS); go_split_ands; (try subst hS); go_simp; (try (with_reducible rfl)); done)); simp only [Act.put, List.setIfInBounds_toArray, List.set_cons_zero, List.set_cons_succ])))
      refine wpTree.done ?_
      obtain ⟨AB, cB, hvB⟩ := HBL.out.shape
      subst hvB
      obtain ⟨nB, hnB⟩ : ∃ k, k = bl.length := ⟨_, rfl⟩
      rw [← hnB] at HBL
      (try rw [← hnB])
      have HLB := Lib.hid hnB
      clear hnB i1 i2
      go_upto_region 10 with fail
      go_loopw [9] (fun i wy => ∃ k : Nat, k ≤ nB ∧ i = .int .i64 k ∧ ∃ m, CM W wy gx gT t (.slice (some ⟨q, qo, none⟩) nL cl) L m ∧ Nds wy W.heap.size (.slice AB nB cB) bl ∧ TQ m (fun h => (∃ y ∈ L.take j, Bey (joinN t) s y h) ∨ h ∈ bl.take k)) (fun i _ => nB - (intOf i).toNat)
      case atStart => exact ⟨0, Nat.zero_le _, rfl, m, HM9.out, HBL.out, tq_congr HT.out fun h => by rw [Int.toNat_natCast]; simp⟩
      case round =>
        clear HM9 HBL HT
        obtain ⟨k, hk, rfl, m, hM, hB, hT⟩ := hrel
        have HM := Lib.hid hM
        have HBd := Lib.hid hB
        have HT := Lib.hid hT
        clear hM hB hT
        by_cases hlt : k < nB
        · have i1 : (k : Int) < (nB : Nat) := by omega
          have i2 : ¬ (k : Int) < 0 := by omega
          obtain ⟨kk, hkk⟩ : ∃ kk, kk = k + 1 := ⟨_, rfl⟩
          have HWk := Lib.hid (wrap_n k kk hkk (by have := HLB.out; have := HBM.out.1; omega))
          have HK := Lib.hid (And.intro hkk hlt)
          obtain ⟨n, hn⟩ : ∃ n, bl[k]? = some n := ⟨_, List.getElem?_eq_getElem (by rw [← HLB.out]; exact hlt)⟩
          have hnb := (HBM.out.2.1 n).1 (List.mem_of_getElem? hn)
          have hr12 := hnb.rng (join_gr t)
          have hz : m n = 0 := tq_no HT.out (by omega) (by
            rintro (⟨y, hy, h2⟩ | h2)
            · have e := (right_tp HBT.out).two h2 hnb
              subst e
              obtain ⟨i, hi, e⟩ := List.getElem_of_mem hy
              have hij : i < j ∧ i < L.length := by rw [List.length_take] at hi; omega
              obtain ⟨hjl, ej⟩ := List.getElem?_eq_some_iff.1 HXX.out
              rw [List.getElem_take] at e
              exact List.pairwise_iff_getElem.1 HL.out.2.1 i j hij.2 hjl hij.1 (by rw [e, ej])
            · have := has_take HBM.out.2.2 hn
              rw [has_nat.2 h2] at this
              cases this)
          have HNK := Lib.hid (show bl.take (k + 1) = bl.take k ++ [n] by rw [List.take_add_one, hn]; rfl)
          obtain ⟨q2, qo2, qc2, ev2, _, cm2⟩ := HBd.out.at_ hn
          simp only [Value.slice.injEq] at ev2
          obtain ⟨rfl, -, rfl⟩ := ev2
          have i3 : ¬ (n : Int) < 1 := by omega
          have i4 : ¬ (12 : Int) < (n : Nat) := by omega
          have i5 : ¬ (n : Int) < 0 := by omega
          have i6 : (n : Int) < 13 := by omega
          have i7 : n < 13 := by omega
          have c1 : wr.cell? ⟨gT, n, none⟩ = some (.int .i64 0) := by rw [HM.out.bT.cell, List.getElem?_toArray, tl_get m i7, hz]; rfl
          have z1 := HM.out.bT.frozen n
          have HP := Lib.hid (HM.out.put n)
          have HBp := Lib.hid (nds_set HM.out HBd.out n (.int .i64 1))
          clear hk hlt hkk hn hnb hr12 hz
          go_wp2_with fail
          (try rw [HWk.out])
          go_roundw
          case rel => exact ⟨kk, by have := HK.out; omega, rfl, _, HP.out, HBp.out, tq_congr (tq_put HT.out n) fun h => by rw [HK.out.1, HNK.out, List.mem_append, List.mem_singleton, or_assoc]⟩
          case measure => have := HK.out; simp [intOf]; omega
        · have i1 : ¬ (k : Int) < (nB : Nat) := by omega
          have HE := Lib.hid (show bl.take k = bl from List.take_of_length_le (by rw [← HLB.out]; omega))
          clear hk hlt
          go_wp2_with fail
          rw [HW.out]
          go_roundw
          case rel => exact ⟨jj, by have := HJ.out; omega, rfl, m, HM.out, tq_congr HT.out fun h => by
            rw [HE.out, HJ.out.1, List.take_add_one, HXX.out, Int.toNat_natCast, HBM.out.2.1]
            simp only [Option.toList_some, List.mem_append, List.mem_singleton]
            constructor
            · rintro (⟨y, hy, h2⟩ | h2)
              · exact ⟨y, .inl hy, h2⟩
              · exact ⟨x, .inr rfl, h2⟩
            · rintro ⟨y, hy | rfl, h2⟩
              · exact .inl ⟨y, hy, h2⟩
              · exact .inr h2⟩
          case measure => have := HJ.out; simp [intOf]; omega
    · have i1 : ¬ (j : Int) < (nL : Nat) := by omega
      have HTE := Lib.hid (show TQ m (fun k => ∃ x ∈ L, Bey (joinN t) node.toNat x k) by
        have h := HT.out
        rw [show L.take j = L from List.take_of_length_le (by rw [← HNL.out]; omega)] at h
        exact h)
      have hr0 : wr.rangeAt gx 0 t.cells := HM.out.bx.range
      obtain ⟨kd, hkd⟩ : ∃ kd, kd = kindV t.k node := ⟨_, rfl⟩
      have HKD := Lib.hid (show Calls Try.prog 24 #[.agg t.cells.toArray, .int .i64 node] wr fun e W' => e = .returned (.int .i64 kd) ∧ Below wr.heap.size wr W' by rw [hkd]; exact kind_any wr t node)
      clear hj hlt HT
      by_cases hk0 : kd = 0
      · have t1 : (kd == (0 : Int)) = true := by rw [hk0]; rfl
        have hL0 : nL = 0 := by
          rw [HNL.out]
          cases hLL : L with
          | nil => rfl
          | cons x L' =>
            have h := (jn_there ((HL.out.1 x).1 (by rw [hLL]; exact List.mem_cons_self))).1
            exact absurd (hkd.symm.trans hk0) (kind_pos h)
        subst hL0
        clear hk0 hkd
        go_wp2_with (first | (refine load_midg rfl 25 _ rfl _ _ rfl t.cells _ hr0 Try.underlying25 rfl (tvinfo t) ?_; (try simp only [Act.put, List.setIfInBounds_toArray, List.set_cons_zero, List.set_cons_succ])) | (go_at_call 24; refine HKD.out.mono ?_; rintro e w7 ⟨rfl, hb⟩; have HB7 := Lib.hid (HM.out.bel.trans (hb.mono HM.out.bel.size)); have HAL := Lib.hid (alive18_any w7); clear hb HKD) | (go_at_call 12; refine HAL.out.mono ?_; rintro e w6 ⟨rfl, hb⟩; have HB6 := Lib.hid (HB7.out.trans (hb.mono HB7.out.size)); clear hb HAL))
        go_ret
        exact ⟨rfl, HB6.out⟩
      · have t1 : (kd == (0 : Int)) = false := by simpa using hk0
        have hth := right_kind HBT.out (n := node) (by rw [← hkd]; exact hk0)
        obtain ⟨s, hs, hs1, hs2⟩ := there_nat hth
        subst hs
        have HS := Lib.hid (And.intro hth (And.intro hs1 hs2))
        have i3 : ¬ (s : Int) < 1 := by omega
        have i4 : ¬ (12 : Int) < (s : Nat) := by omega
        have i5 : ¬ (s : Int) < 0 := by omega
        have i6 : (s : Int) < 13 := by omega
        have i7 : s < 13 := by omega
        have hz : m s = 0 := tq_no HTE.out (by omega) (by
          rintro ⟨x, _, h⟩
          rw [Int.toNat_natCast] at h
          exact absurd rfl (h.ne2 (join_gr t)))
        have HZ := Lib.hid hz
        clear hk0 hkd hth hs1 hs2 hz
        go_upto_region 19 with (first | (refine load_midg rfl 25 _ rfl _ _ rfl t.cells _ hr0 Try.underlying25 rfl (tvinfo t) ?_; (try simp only [Act.put, List.setIfInBounds_toArray, List.set_cons_zero, List.set_cons_succ])) | (go_at_call 24; refine HKD.out.mono ?_; rintro e w7 ⟨rfl, hb⟩; have HM7 := Lib.hid (HM.out.next hb); clear hb HKD))
        clear hr0 HM i1 t1
        have c1 : w7.cell? ⟨gT, s, none⟩ = some (.int .i64 0) := by rw [HM7.out.bT.cell, List.getElem?_toArray, tl_get m i7, HZ.out]; rfl
        have z1 := HM7.out.bT.frozen s
        have HM8 := Lib.hid (HM7.out.put s)
        go_upto_region 21 with fail
        clear c1 z1 i3 i4 i5 i6 i7
        obtain ⟨w8, hw8⟩ : ∃ w8, w8 = w7.setCell ⟨gT, s, none⟩ (.int .i64 1) := ⟨_, rfl⟩
        rw [← hw8] at HM8
        (try rw [← hw8])
        clear hw8
        obtain ⟨m9, hm9⟩ : ∃ m9, m9 = tU m s := ⟨_, rfl⟩
        rw [← hm9] at HM8
        have HF := Lib.hid (show ∀ n, 1 ≤ n → n ≤ 12 → (thereB t.k (n : Nat) = true ∧ m9 n = 1) ∨ (thereB t.k (n : Nat) = false ∧ m9 n = 0) by
          intro n h1 h2
          have h3 := tq_put HTE.out s n (by omega)
          rw [← hm9, Int.toNat_natCast] at h3
          rcases h3 with ⟨h3, h4⟩ | ⟨h3, h4⟩
          · refine .inl ⟨?_, h3⟩
            rcases h4 with ⟨x, _, h5⟩ | h5
            · have h6 : Rch (joinN t) x n := rch_mono (fun a b h => (aw_true.1 h).2) h5.2
              cases h6 with
              | base => exact (jn_there (t := t) h5.1).2
              | step _ _ _ k => exact (jn_there (t := t) k).2
            · rw [h5]; exact HS.out.1
          · refine .inr ⟨?_, h3⟩
            cases hth : thereB t.k (n : Nat) with
            | false => rfl
            | true =>
              exfalso
              rcases bey_split (right_conn HBT.out HS.out.1 hth) with h5 | ⟨y, hy⟩
              · exact h4 (.inr h5)
              · exact h4 (.inl ⟨y, (HL.out.1 y).2 hy.1, hy⟩))
        clear hm9 HTE HM7
        go_loopw [10] (fun i wy => ∃ n : Nat, 1 ≤ n ∧ n ≤ 13 ∧ i = .int .i64 n ∧ CM W wy gx gT t (.slice Al nL cl) L m9) (fun i _ => 13 - (intOf i).toNat)
        case atStart => exact ⟨1, Nat.le_refl _, by omega, rfl, HM8.out⟩
        case round =>
          clear HM8
          obtain ⟨n, hn1, hn2, rfl, hM⟩ := hrel
          have HM := Lib.hid hM
          clear hM
          by_cases hlt : n < 13
          · have i1 : (n : Int) < 13 := by omega
            have i2 : ¬ (n : Int) < 0 := by omega
            have i3 : n < 13 := hlt
            obtain ⟨nn, hnn⟩ : ∃ nn, nn = n + 1 := ⟨_, rfl⟩
            have HJ := Lib.hid (And.intro hnn (And.intro hlt hn1))
            have HW := Lib.hid (wrap_n n nn hnn (by omega))
            have hr0 : wr.rangeAt gx 0 t.cells := HM.out.bx.range
            obtain ⟨kn, hkn⟩ : ∃ kn, kn = kindV t.k (n : Nat) := ⟨_, rfl⟩
            have HKN := Lib.hid (show Calls Try.prog 24 #[.agg t.cells.toArray, .int .i64 (n : Nat)] wr fun e W' => e = .returned (.int .i64 kn) ∧ Below wr.heap.size wr W' by rw [hkn]; exact kind_any wr t (n : Nat))
            have hf := HF.out n hn1 (by omega)
            rcases hf with ⟨hth, hm⟩ | ⟨hth, hm⟩
            · have k1 : (0 : Int) < kn := by
                have h1 := kind_pos hth
                have h2 : noKindB (kindV t.k (n : Nat)) = false := by
                  unfold thereB at hth
                  simp only [Bool.and_eq_true, Bool.not_eq_true'] at hth
                  exact hth.2
                unfold noKindB at h2
                simp at h2
                rw [hkn]
                omega
              have HC := Lib.hid (fun (w : World) (hb : Below wr.heap.size wr w) => show w.cell? ⟨gT, n, none⟩ = some (.int .i64 1) by rw [(HM.out.next hb).bT.cell, List.getElem?_toArray, tl_get m9 hlt, hm]; rfl)
              clear hn1 hn2 hlt hnn hkn hth hm
              go_wp2_with (first | (refine load_midg rfl 25 _ rfl _ _ rfl t.cells _ hr0 Try.underlying25 rfl (tvinfo t) ?_; (try simp only [Act.put, List.setIfInBounds_toArray, List.set_cons_zero, List.set_cons_succ])) | (go_at_call 24; refine HKN.out.mono ?_; rintro e w7 ⟨rfl, hb⟩; have HM7 := Lib.hid (HM.out.next hb); have c1 := HC.out w7 hb; clear hb HKN))
              (try rw [HW.out])
              go_roundw
              case rel => exact ⟨nn, by have := HJ.out; omega, by have := HJ.out; omega, by first | rfl | simp [HJ.out.1], HM7.out⟩
              case measure => have := HJ.out; simp [intOf]; omega
            · have k1 : ¬ (0 : Int) < kn := by
                have h1 : kindV t.k (n : Nat) = 0 := by
                  by_cases h : kindV t.k (n : Nat) = 0
                  · exact h
                  · rw [right_kind HBT.out h] at hth; cases hth
                rw [hkn]
                omega
              have HC := Lib.hid (fun (w : World) (hb : Below wr.heap.size wr w) => show w.cell? ⟨gT, n, none⟩ = some (.int .i64 0) by rw [(HM.out.next hb).bT.cell, List.getElem?_toArray, tl_get m9 hlt, hm]; rfl)
              clear hn1 hn2 hlt hnn hkn hth hm
              go_wp2_with (first | (refine load_midg rfl 25 _ rfl _ _ rfl t.cells _ hr0 Try.underlying25 rfl (tvinfo t) ?_; (try simp only [Act.put, List.setIfInBounds_toArray, List.set_cons_zero, List.set_cons_succ])) | (go_at_call 24; refine HKN.out.mono ?_; rintro e w7 ⟨rfl, hb⟩; have HM7 := Lib.hid (HM.out.next hb); have c1 := HC.out w7 hb; clear hb HKN))
              (try rw [HW.out])
              go_roundw
              case rel => exact ⟨nn, by have := HJ.out; omega, by have := HJ.out; omega, by first | rfl | simp [HJ.out.1], HM7.out⟩
              case measure => have := HJ.out; simp [intOf]; omega
          · have i1 : ¬ (n : Int) < 13 := by omega
            clear hn1 hn2 hlt
            have HAL := Lib.hid (alive18_any wr)
            go_wp2_with ((go_at_call 12; refine HAL.out.mono ?_; rintro e w6 ⟨rfl, hb⟩; have HB6 := Lib.hid (HM.out.bel.trans (hb.mono HM.out.bel.size)); clear hb HAL))
            go_ret
            exact ⟨rfl, HB6.out⟩
end Tr
end Go.Proofs.Ytopkfmamjlkjiaa

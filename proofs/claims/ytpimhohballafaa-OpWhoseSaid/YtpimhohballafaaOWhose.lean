/-
OpWhose holds: an op that may be is a customer's or a seller's; a customer's has no price; two of unlike kinds have bytes that begin otherwise. No condition.
-/
import Derived.Test.YtpimhohballafaaOOpen
import Derived.Deep.CutRange
namespace Go.Proofs.Ytpimhohballafaa
open Go.ChangeShapes Go.WideShapes Go.ChangeAt Go.RowKit

theorem new_eq (W : World) : Calls Try.prog 36 #[] W fun e W' => e = .returned (.pointer (some ⟨W.heap.size, 0, none⟩)) ∧ W.alloc (.cells #[.slice none 0 0] 114) = W' := by
  go_enter Try.func36, Try.ntmps36
  go_wp2
  go_ret
  exact ⟨rfl, rfl⟩
/-- A writer that nothing was written to. -/
def Fresh (W : World) (g : Nat) : Prop := W.heap[g]? = some (.cells #[.slice none 0 0] 114 (0, 0))
theorem Fresh.lt {W : World} {g : Nat} (h : Fresh W g) : g < W.heap.size := by
  rcases Nat.lt_or_ge g W.heap.size with h1 | h1
  · exact h1
  · unfold Fresh at h; rw [Array.getElem?_eq_none h1] at h; cases h
theorem Fresh.row {W : World} {g : Nat} (h : Fresh W g) : rowOf W g = none := rowOf_of h
theorem Fresh.wtr {W : World} {g : Nat} (h : Fresh W g) : Wtr W g g [] := ⟨Nat.le_refl _, _, h, World.ownsRow_nil _ _ _ _⟩
theorem writer_no_u8 : (5 : TypeId) ≠ 114 := by decide
/-- What was written to one writer stays, whatever is written to a fresh one. -/
theorem Wtr.other {W W' : World} {B B' g g' : Nat} {bs : List Nat} (h : Wtr W B g bs) (hne : g ≠ g') (hf : Fresh W g') (k : Wrote B' g' W W') : Wtr W' B g bs := by
  have hk : ∀ k, k < W.heap.size → k ≠ g' → W'.heap[k]? = W.heap[k]? := fun q h1 h2 => k.2.1 q h1 h2 (by rw [hf.row]; simp)
  have hlt := h.lt
  obtain ⟨hB, v, hv, hl, hown⟩ := h
  refine ⟨hB, v, (hk g hlt hne).trans hv, hl, hown.imp id ?_⟩
  rintro ⟨q, cap, cur, rfl, hq, hh, r⟩
  have hqlt : q < W.heap.size := by
    rcases Nat.lt_or_ge q W.heap.size with h5 | h5
    · exact h5
    · rw [Array.getElem?_eq_none h5] at hh; cases hh
  refine ⟨q, cap, cur, rfl, hq, (hk q hqlt ?_).trans hh, r⟩
  rintro rfl
  unfold Fresh at hf
  rw [hh] at hf
  simp only [Option.some.injEq, Obj.cells.injEq] at hf
  exact writer_no_u8 hf.2.1
theorem encO_pos (o : OpR) : 0 < (encO o).length := by
  have := enc_pos (wordN o.k)
  unfold encO
  rw [List.length_append]
  omega
/-- The first byte of an op that may be is its kind. -/
theorem encO_first {o : OpR} (h : mayO o = true) : (encO o)[0]? = some o.k.toNat := by
  obtain ⟨k, s, h1, h2, h3, _⟩ := may_facts h
  unfold encO
  rw [h1, wordN_nat k (by omega), enc_lo (by omega)]
  simp

/-- Where the first of bytes lies. -/
theorem ByR.first {W : World} {A : Option Addr} {bs : List Nat} (h : ByR W A bs) (h0 : 0 < bs.length) : ∃ q o, A = some ⟨q, o, none⟩ ∧ ∀ x, bs[0]? = some x → W.cell? ⟨q, o, none⟩ = some (.int .u8 (x : Nat)) := by
  rcases h with rfl | ⟨q, o, e, _, hc⟩
  · simp at h0
  · exact ⟨q, o, e, fun x hx => by have := hc 0 x hx; rwa [Nat.add_zero] at this⟩
theorem get0 {bs : List Nat} (h : 0 < bs.length) : ∃ x, bs[0]? = some x := ⟨bs[0], List.getElem?_eq_getElem h⟩

set_option maxRecDepth 20000 in
set_option maxHeartbeats 16000000 in
theorem opwhose_walk (a b : OpR) (ha : a.Ok) (hb : b.Ok) (W : World) :
    Calls Try.prog 8 #[.agg a.plain.toArray, .agg b.plain.toArray] W fun e W' => e = .returned (.bool true) ∧ Below W.heap.size W W' := by
  have hsz : (W.alloc (.cells a.plain.toArray 48)).heap.size = W.heap.size + 1 := by simp
  have bA := (Blk.new W 48 a.plain.toArray).alloc (.cells b.plain.toArray 48)
  have bB := Blk.new (W.alloc (.cells a.plain.toArray 48)) 48 b.plain.toArray
  rw [hsz] at bB
  have hB0 := ((Below.refl W.heap.size W).alloc (Nat.le_refl _) (.cells a.plain.toArray 48)).alloc (by rw [hsz]; omega) (.cells b.plain.toArray 48)
  clear hsz
  go_enter Try.func8, Try.ntmps8
  go_upto_region 1 with fail
  obtain ⟨W1, hw⟩ : ∃ W1, W1 = (W.alloc (.cells a.plain.toArray 48)).alloc (.cells b.plain.toArray 48) := ⟨_, rfl⟩
  rw [← hw] at bA bB hB0 ⊢
  have HB0 := Lib.hid hB0
  have HA := Lib.hid bA
  clear hw
  go_cut [5, 6] from 11 to 14 (fun p1 p2 wx => ∃ b1 b2 : Nat, p1 = .pointer (some ⟨b1, 0, none⟩) ∧ p2 = .pointer (some ⟨b2, 0, none⟩) ∧ Blk wx b1 59 a.cells.toArray ∧ Blk wx b2 59 b.cells.toArray ∧ Below W1.heap.size W1 wx)
  case first =>
    have ra := bA.range
    have rb := bB.range
    clear bA bB hB0
    refine wp_region_tree (S := (fun W' => Below W1.heap.size W1 W')) (.take 0 (.take 2 (.three 1 (.three 3 (.two 4 (.one 5 (.one 6 (.one 7 .nil))) 5 (.one 4 (.one 6 (.one 7 .nil)))) 4 (.two 3 (.one 5 (.one 6 (.one 7 .nil))) 5 (.one 3 (.one 6 (.one 7 .nil)))) 5 (.two 3 (.one 4 (.one 6 (.one 7 .nil))) 4 (.one 3 (.one 6 (.one 7 .nil))))) 4 (.two 1 (.two 3 (.one 5 (.one 6 (.one 7 .nil))) 5 (.one 3 (.one 6 (.one 7 .nil)))) 5 (.one 1 (.one 3 (.one 6 (.one 7 .nil))))) 5 (.two 1 (.two 3 (.one 4 (.one 6 (.one 7 .nil))) 4 (.one 3 (.one 6 (.one 7 .nil)))) 4 (.one 1 (.one 3 (.one 6 (.one 7 .nil)))))))) 9999 (by kernel_rfl) (by kernel_rfl) (by kernel_rfl) (by kernel_rfl) (by kernel_rfl) (fun _ _ d _ _ h => by cases d <;> exact h) ?_ (fun hHeld => ?_); (focus (exact (Below.refl _ _).drew)); simp only [Tree.map, List.getElem?_toArray, List.getElem?_cons_zero, List.getElem?_cons_succ]
    (repeat' (first | (refine wpTree.take (v := undef) (Or.inr ⟨by rfl, rfl⟩) ?_; simp only [Act.put, List.setIfInBounds_toArray, List.set_cons_zero, List.set_cons_succ]) | (refine wpTree.take (v := .agg (OpR.plain ?_).toArray) (yieldsIf_load_mid rfl 48 _ rfl _ _ rfl (OpR.plain _) _ ?_ Try.underlying48 rfl (pinfoL _)) ?_; rotate_left; (focus (intro _ hS; refine range_next hS ?_; assumption)); simp only [Act.put, List.setIfInBounds_toArray, List.set_cons_zero, List.set_cons_succ]) | (refine wpTree.take (v := ?_) (Or.inl ⟨by rfl, ?_⟩) ?_; rotate_left; (focus (intro _ hS; (try dsimp only at hS); go_split_ands; (try subst hS); go_simp; (try (with_reducible rfl)); done)); simp only [Act.put, List.setIfInBounds_toArray, List.set_cons_zero, List.set_cons_succ]) | (refine wpTree.two ?_ ?_) | (refine wpTree.three ?_ ?_ ?_) | (refine wpTree.one (fun K hK => ?_); (first | (refine step_store_blk (by rfl) 59 _ _ rfl _ 59 #[.int .i64 0, .int .i64 0, .int .i64 0, .float .f64 0] (OpR.cells _).toArray rfl rfl ?_ (oinfoA _) (op_siz _) (op_one _) ?_; (focus ((try clear hHeld); (first | assumption | ((repeat' (first | assumption | ((with_reducible refine Blk.new' ?_); (first | rfl | (simp; done))) | ((with_reducible refine Blk.newRow ?_); (first | rfl | (simp; done))) | ((with_reducible refine Blk.farRow ?_ ?_ _); rotate_left; (first | (simp; done) | (simp; omega) | omega)) | (with_reducible refine Blk.alloc ?_ _) | (with_reducible refine Blk.drew ?_) | ((with_reducible refine Blk.far ?_ ?_ _); rotate_left; (first | (simp; done) | (simp; omega) | omega)) | (with_reducible refine Blk.next' (by assumption) ?_))); done))))) | go_simp); (try (first  | (go_at_call 27; refine (plainop_any _ _).mono ?_; rintro e W' ⟨rfl, hb⟩; have hz := hb.size; (try simp at hz)))); (try (go_wp2_with fail)); refine hK.out _ _ ?_ (fun hHeld' => ?_); (focus ((repeat' (first | exact Below.refl _ _ | assumption | (with_reducible refine below_alloc' ?_) | (with_reducible refine Below.drew ?_) | (with_reducible refine below_next' (by assumption) ?_) | (with_reducible refine below_setRow ?_ ?_ _) | (with_reducible refine Below.setCell ?_ ?_ _) | (with_reducible refine below_next (by assumption) ?_ ?_) | (with_reducible refine Below.alloc ?_ ?_ _) | exact Nat.le_refl _ | (exact below_size (by assumption)) | (with_reducible refine size_alloc ?_) | (with_reducible refine size_setRow' ?_) | (with_reducible refine size_setCell' ?_) | (with_reducible refine size_next (by assumption) ?_) | omega | (simp; done) | (simp; omega))); done)); clear hK K hHeld; have hHeld := hHeld'; clear hHeld'; (try simp only [Act.put, List.setIfInBounds_toArray, List.set_cons_zero, List.set_cons_succ]))))
    all_goals refine wpTree.done ?_
    all_goals go_wp2_with fail
    all_goals go_meet
    all_goals have hH := Lib.hid hHeld
    all_goals clear hHeld
    all_goals exact ⟨_, _, rfl, rfl, by (first | assumption | ((repeat' (first | assumption | ((with_reducible refine Blk.new' ?_); (first | rfl | (simp; done))) | ((with_reducible refine Blk.newRow ?_); (first | rfl | (simp; done))) | ((with_reducible refine Blk.setRow (cs := ?_) ?_ _); rotate_left) | ((with_reducible refine Blk.farRow ?_ ?_ _); rotate_left; (first | (simp; done) | (simp; omega) | omega)) | (with_reducible refine Blk.alloc ?_ _) | (with_reducible refine Blk.drew ?_) | ((with_reducible refine Blk.far ?_ ?_ _); rotate_left; (first | (simp; done) | (simp; omega) | omega)) | (with_reducible refine Blk.next' (by assumption) ?_))); done)), by (first | assumption | ((repeat' (first | assumption | ((with_reducible refine Blk.new' ?_); (first | rfl | (simp; done))) | ((with_reducible refine Blk.newRow ?_); (first | rfl | (simp; done))) | ((with_reducible refine Blk.setRow (cs := ?_) ?_ _); rotate_left) | ((with_reducible refine Blk.farRow ?_ ?_ _); rotate_left; (first | (simp; done) | (simp; omega) | omega)) | (with_reducible refine Blk.alloc ?_ _) | (with_reducible refine Blk.drew ?_) | ((with_reducible refine Blk.far ?_ ?_ _); rotate_left; (first | (simp; done) | (simp; omega) | omega)) | (with_reducible refine Blk.next' (by assumption) ?_))); done)), hH.out⟩
  case rest =>
    obtain ⟨b1, b2, rfl, rfl, h1, h2, h3⟩ := hcut
    have HW := Lib.hid (HB0.out.trans (h3.mono HB0.out.size))
    have HP := Lib.hid (HA.out.next h3)
    have HA1 := Lib.hid h1
    have HB1 := Lib.hid h2
    have ro := h1.range
    have HM := Lib.hid (may_any a)
    have HCU := Lib.hid (customers_any a)
    have HOA := Lib.hid ha
    have HOB := Lib.hid hb
    clear h1 h2 h3 bA bB hB0 HB0 HA ha hb
    cases hm : mayO a with
    | false =>
      rw [hm] at HM
      have hcu : custO a = false := by unfold custO; rw [hm]; rfl
      rw [hcu] at HCU
      clear hm hcu
      go_wp2_with (first | (refine wpList_load_midg (by rfl) 59 _ rfl _ _ rfl (OpR.cells ?_) _ ?_ Try.underlying59 rfl (oinfo _) ?_; rotate_left; (focus assumption)))
      refine (HM.out _).mono ?_
      rintro e w2 ⟨rfl, hb⟩
      have HW2 := Lib.hid (HW.out.trans (hb.mono HW.out.size))
      have HA2 := Lib.hid (HA1.out.next hb)
      clear hb ro HM
      go_wp2_with fail
      refine (alive6_any w2).mono ?_
      rintro e w3 ⟨rfl, hb⟩
      have HW3 := Lib.hid (HW2.out.trans (hb.mono HW2.out.size))
      have ro := (HA2.out.next hb).range
      clear hb HW2 HA2
      go_wp2_with (first | (refine wpList_load_midg (by rfl) 59 _ rfl _ _ rfl (OpR.cells ?_) _ ?_ Try.underlying59 rfl (oinfo _) ?_; rotate_left; (focus assumption)))
      refine (HCU.out _).mono ?_
      rintro e w4 ⟨rfl, hb⟩
      have HW4 := Lib.hid (HW3.out.trans (hb.mono HW3.out.size))
      clear hb HW3 ro
      go_wp2_with fail
      go_ret
      exact ⟨rfl, HW4.out⟩
    | true =>
      rw [hm] at HM
      go_wp2_with (first | (refine wpList_load_midg (by rfl) 59 _ rfl _ _ rfl (OpR.cells ?_) _ ?_ Try.underlying59 rfl (oinfo _) ?_; rotate_left; (focus assumption)))
      refine (HM.out _).mono ?_
      rintro e w2 ⟨rfl, hb⟩
      have HW2 := Lib.hid (HW.out.trans (hb.mono HW.out.size))
      have HA2 := Lib.hid (HA1.out.next hb)
      have HB2 := Lib.hid (HB1.out.next hb)
      have HP2 := Lib.hid (HP.out.next hb)
      clear hb ro HM HW HA1 HB1 HP
      have hfst := encO_first hm
      obtain ⟨kk, _, f1, f2, f3, _, _, _, _, _, _, f10⟩ := may_facts hm
      have HFST := Lib.hid hfst
      clear hfst
      go_upto_region 4 with fail
      go_cut [43] from 24 to 42 (fun x wx => x = .bool false ∧ Below w2.heap.size w2 wx)
      case first =>
        obtain ⟨ro, c0, _, _, _⟩ := op_all HA2.out
        obtain ⟨_, _, _, c3⟩ := plain_all HP2.out
        have e1 : decide (1 ≤ a.k) = true := by simp; omega
        by_cases hk : a.k ≤ 4
        · skip
          have e2 : decide (a.k ≤ 4) = true := by simp; omega
          have hcu : custO a = true := by unfold custO withinB; rw [hm, e1, e2]; rfl
          rw [hcu] at HCU
          have hp0 : a.p = 0 := f10 (by unfold hasP; simp; omega)
          rw [hp0] at c3
          clear hk hcu hm f1 f2 f3 f10
          refine wp_region_tree (S := (fun W' => W'.rangeAt b1 0 a.cells ∧ W'.cell? ⟨b1, 0, none⟩ = some (.int .i64 a.k) ∧ W'.cell? ⟨W.heap.size, 3, none⟩ = some (.int .u64 ((0 : Nat) : Int)) ∧ Below w2.heap.size w2 W')) (.take 0 (.take 2 (.take 3 (.take 4 (.one 1 (.take 5 (.take 6 (.take 7 (.take 8 (.take 9 (.take 10 (.take 11 (.take 12 (.one 13 (.take 14 (.take 15 (.take 16 (.take 17 (.take 18 (.take 19 .nil)))))))))))))))))))) 9999 (by kernel_rfl) (by kernel_rfl) (by kernel_rfl) (by kernel_rfl) (by kernel_rfl) (fun _ _ d _ _ h => by cases d <;> exact h) ?_ (fun hHeld => ?_); (focus (exact ⟨ro, c0, c3, (Below.refl _ _).drew⟩)); simp only [Tree.map, List.getElem?_toArray, List.getElem?_cons_zero, List.getElem?_cons_succ]
          (repeat (first | (refine wpTree.take (v := undef) (Or.inr ⟨by rfl, rfl⟩) ?_; simp only [Act.put, List.setIfInBounds_toArray, List.set_cons_zero, List.set_cons_succ]) | (refine wpTree.take (v := .agg (OpR.cells ?_).toArray) (yieldsIf_load_mid rfl 59 _ rfl _ _ rfl (OpR.cells _) _ ?_ Try.underlying59 rfl (oinfo _)) ?_; rotate_left; (focus (intro _ hS; exact hS.1)); simp only [Act.put, List.setIfInBounds_toArray, List.set_cons_zero, List.set_cons_succ]) | (refine wpTree.take (v := ?_) (Or.inl ⟨by rfl, ?_⟩) ?_; rotate_left; (focus (intro _ hS; (try dsimp only at hS); go_split_ands; (try subst hS); go_simp; (try (with_reducible rfl)); done)); simp only [Act.put, List.setIfInBounds_toArray, List.set_cons_zero, List.set_cons_succ])))
          refine wpTree.one (fun K hK => ?_)
          go_simp
          go_at_call 30
          refine (HCU.out _).mono ?_
          rintro e w3 ⟨rfl, hbw3⟩
          refine hK.out _ _ (⟨range_next hbw3 hHeld.1, cell_next hbw3 hHeld.2.1, cell_next hbw3 hHeld.2.2.1, Below.trans hHeld.2.2.2 (hbw3.mono (Below.size hHeld.2.2.2))⟩) (fun hHeld' => ?_)
          clear hK K hHeld hbw3
          have hHeld := hHeld'
          clear hHeld'
          (repeat (first | (refine wpTree.take (v := undef) (Or.inr ⟨by rfl, rfl⟩) ?_; simp only [Act.put, List.setIfInBounds_toArray, List.set_cons_zero, List.set_cons_succ]) | (refine wpTree.take (v := .agg (OpR.cells ?_).toArray) (yieldsIf_load_mid rfl 59 _ rfl _ _ rfl (OpR.cells _) _ ?_ Try.underlying59 rfl (oinfo _)) ?_; rotate_left; (focus (intro _ hS; exact hS.1)); simp only [Act.put, List.setIfInBounds_toArray, List.set_cons_zero, List.set_cons_succ]) | (refine wpTree.take (v := ?_) (Or.inl ⟨by rfl, ?_⟩) ?_; rotate_left; (focus (intro _ hS; (try dsimp only at hS); go_split_ands; (try subst hS); go_simp; (try (with_reducible rfl)); done)); simp only [Act.put, List.setIfInBounds_toArray, List.set_cons_zero, List.set_cons_succ])))
          refine wpTree.one (fun K hK => ?_)
          go_simp
          go_at_call 30
          refine (HCU.out _).mono ?_
          rintro e w4 ⟨rfl, hbw4⟩
          refine hK.out _ _ (⟨range_next hbw4 hHeld.1, cell_next hbw4 hHeld.2.1, cell_next hbw4 hHeld.2.2.1, Below.trans hHeld.2.2.2 (hbw4.mono (Below.size hHeld.2.2.2))⟩) (fun hHeld' => ?_)
          clear hK K hHeld hbw4
          have hHeld := hHeld'
          clear hHeld'
          (repeat (first | (refine wpTree.take (v := undef) (Or.inr ⟨by rfl, rfl⟩) ?_; simp only [Act.put, List.setIfInBounds_toArray, List.set_cons_zero, List.set_cons_succ]) | (refine wpTree.take (v := .agg (OpR.cells ?_).toArray) (yieldsIf_load_mid rfl 59 _ rfl _ _ rfl (OpR.cells _) _ ?_ Try.underlying59 rfl (oinfo _)) ?_; rotate_left; (focus (intro _ hS; exact hS.1)); simp only [Act.put, List.setIfInBounds_toArray, List.set_cons_zero, List.set_cons_succ]) | (refine wpTree.take (v := ?_) (Or.inl ⟨by rfl, ?_⟩) ?_; rotate_left; (focus (intro _ hS; (try dsimp only at hS); go_split_ands; (try subst hS); go_simp; (try (with_reducible rfl)); done)); simp only [Act.put, List.setIfInBounds_toArray, List.set_cons_zero, List.set_cons_succ])))
          refine wpTree.done ?_
          have HF := Lib.hid hHeld.2.2.2
          clear hHeld ro c0 c3
          go_wp2_with fail
          go_meet
          exact ⟨rfl, HF.out⟩
        · skip
          have e2 : decide (a.k ≤ 4) = false := by simp; omega
          have hcu : custO a = false := by unfold custO withinB; rw [hm, e1, e2]; rfl
          rw [hcu] at HCU
          clear hk hcu hm f1 f2 f3 f10
          refine wp_region_tree (S := (fun W' => W'.rangeAt b1 0 a.cells ∧ W'.cell? ⟨b1, 0, none⟩ = some (.int .i64 a.k) ∧ W'.cell? ⟨W.heap.size, 3, none⟩ = some (.int .u64 (a.p : Nat)) ∧ Below w2.heap.size w2 W')) (.take 0 (.take 2 (.take 3 (.take 4 (.one 1 (.take 5 (.take 6 (.take 7 (.take 8 (.take 9 (.take 10 (.take 11 (.take 12 (.one 13 (.take 14 (.take 15 (.take 16 (.take 17 (.take 18 (.take 19 .nil)))))))))))))))))))) 9999 (by kernel_rfl) (by kernel_rfl) (by kernel_rfl) (by kernel_rfl) (by kernel_rfl) (fun _ _ d _ _ h => by cases d <;> exact h) ?_ (fun hHeld => ?_); (focus (exact ⟨ro, c0, c3, (Below.refl _ _).drew⟩)); simp only [Tree.map, List.getElem?_toArray, List.getElem?_cons_zero, List.getElem?_cons_succ]
          (repeat (first | (refine wpTree.take (v := undef) (Or.inr ⟨by rfl, rfl⟩) ?_; simp only [Act.put, List.setIfInBounds_toArray, List.set_cons_zero, List.set_cons_succ]) | (refine wpTree.take (v := .agg (OpR.cells ?_).toArray) (yieldsIf_load_mid rfl 59 _ rfl _ _ rfl (OpR.cells _) _ ?_ Try.underlying59 rfl (oinfo _)) ?_; rotate_left; (focus (intro _ hS; exact hS.1)); simp only [Act.put, List.setIfInBounds_toArray, List.set_cons_zero, List.set_cons_succ]) | (refine wpTree.take (v := ?_) (Or.inl ⟨by rfl, ?_⟩) ?_; rotate_left; (focus (intro _ hS; (try dsimp only at hS); go_split_ands; (try subst hS); go_simp; (try (with_reducible rfl)); done)); simp only [Act.put, List.setIfInBounds_toArray, List.set_cons_zero, List.set_cons_succ])))
          refine wpTree.one (fun K hK => ?_)
          go_simp
          go_at_call 30
          refine (HCU.out _).mono ?_
          rintro e w3 ⟨rfl, hbw3⟩
          refine hK.out _ _ (⟨range_next hbw3 hHeld.1, cell_next hbw3 hHeld.2.1, cell_next hbw3 hHeld.2.2.1, Below.trans hHeld.2.2.2 (hbw3.mono (Below.size hHeld.2.2.2))⟩) (fun hHeld' => ?_)
          clear hK K hHeld hbw3
          have hHeld := hHeld'
          clear hHeld'
          (repeat (first | (refine wpTree.take (v := undef) (Or.inr ⟨by rfl, rfl⟩) ?_; simp only [Act.put, List.setIfInBounds_toArray, List.set_cons_zero, List.set_cons_succ]) | (refine wpTree.take (v := .agg (OpR.cells ?_).toArray) (yieldsIf_load_mid rfl 59 _ rfl _ _ rfl (OpR.cells _) _ ?_ Try.underlying59 rfl (oinfo _)) ?_; rotate_left; (focus (intro _ hS; exact hS.1)); simp only [Act.put, List.setIfInBounds_toArray, List.set_cons_zero, List.set_cons_succ]) | (refine wpTree.take (v := ?_) (Or.inl ⟨by rfl, ?_⟩) ?_; rotate_left; (focus (intro _ hS; (try dsimp only at hS); go_split_ands; (try subst hS); go_simp; (try (with_reducible rfl)); done)); simp only [Act.put, List.setIfInBounds_toArray, List.set_cons_zero, List.set_cons_succ])))
          refine wpTree.one (fun K hK => ?_)
          go_simp
          go_at_call 30
          refine (HCU.out _).mono ?_
          rintro e w4 ⟨rfl, hbw4⟩
          refine hK.out _ _ (⟨range_next hbw4 hHeld.1, cell_next hbw4 hHeld.2.1, cell_next hbw4 hHeld.2.2.1, Below.trans hHeld.2.2.2 (hbw4.mono (Below.size hHeld.2.2.2))⟩) (fun hHeld' => ?_)
          clear hK K hHeld hbw4
          have hHeld := hHeld'
          clear hHeld'
          (repeat (first | (refine wpTree.take (v := undef) (Or.inr ⟨by rfl, rfl⟩) ?_; simp only [Act.put, List.setIfInBounds_toArray, List.set_cons_zero, List.set_cons_succ]) | (refine wpTree.take (v := .agg (OpR.cells ?_).toArray) (yieldsIf_load_mid rfl 59 _ rfl _ _ rfl (OpR.cells _) _ ?_ Try.underlying59 rfl (oinfo _)) ?_; rotate_left; (focus (intro _ hS; exact hS.1)); simp only [Act.put, List.setIfInBounds_toArray, List.set_cons_zero, List.set_cons_succ]) | (refine wpTree.take (v := ?_) (Or.inl ⟨by rfl, ?_⟩) ?_; rotate_left; (focus (intro _ hS; (try dsimp only at hS); go_split_ands; (try subst hS); go_simp; (try (with_reducible rfl)); done)); simp only [Act.put, List.setIfInBounds_toArray, List.set_cons_zero, List.set_cons_succ])))
          refine wpTree.done ?_
          have HF := Lib.hid hHeld.2.2.2
          clear hHeld ro c0 c3
          go_wp2_with fail
          go_meet
          exact ⟨rfl, HF.out⟩
      case rest =>
        obtain ⟨rfl, h5⟩ := hcut
        have HW5 := Lib.hid (HW2.out.trans (h5.mono HW2.out.size))
        have HA5 := Lib.hid (HA2.out.next h5)
        have HB5 := Lib.hid (HB2.out.next h5)
        obtain ⟨W5, hW5⟩ : ∃ W5, W5 = wc := ⟨_, rfl⟩
        rw [← hW5] at HW5 HA5 HB5 ⊢
        clear hW5 h5 HW2 HA2 HB2 HP2 HCU
        go_wp2_with fail
        refine (new_eq W5).mono ?_
        rintro e w6 ⟨rfl, hw6⟩
        go_wp2_with fail
        refine (new_eq w6).mono ?_
        rintro e w7 ⟨rfl, hw7⟩
        have hs6 : w6.heap.size = W5.heap.size + 1 := by rw [← hw6]; simp
        have hb56 : Below W5.heap.size W5 w6 := by rw [← hw6]; exact (Below.refl _ _).alloc (Nat.le_refl _) _
        have hb67 : Below w6.heap.size w6 w7 := by rw [← hw7]; exact (Below.refl _ _).alloc (Nat.le_refl _) _
        have f1 : Fresh w7 W5.heap.size := (hb67.block _ (by omega)).trans (by rw [← hw6]; exact heap_alloc_new W5 _)
        have f2 : Fresh w7 w6.heap.size := by rw [← hw7]; exact heap_alloc_new w6 _
        have hb57 := hb56.trans (hb67.mono (by omega))
        have HW7 := Lib.hid (HW5.out.trans (hb57.mono HW5.out.size))
        have HA7 := Lib.hid (HA5.out.next hb57)
        have HB7 := Lib.hid (HB5.out.next hb57)
        have HLT := Lib.hid (show b1 < W5.heap.size ∧ b2 < W5.heap.size ∧ W.heap.size ≤ W5.heap.size from ⟨HA5.out.lt, HB5.out.lt, HW5.out.size⟩)
        have HF1 := Lib.hid f1
        have HF2 := Lib.hid f2
        have HS6 := Lib.hid hs6
        have ro := HA7.out.range
        clear hw6 hw7 hb56 hb67 f1 f2 hb57 HW5 HA5 HB5 hs6
        have HPA := Lib.hid (putop_any W5.heap.size W5.heap.size a [] w7 HF1.out.wtr HOA.out (by decide))
        go_wp2_with (first | (refine wpList_load_midg (by rfl) 59 _ rfl _ _ rfl (OpR.cells ?_) _ ?_ Try.underlying59 rfl (oinfo _) ?_; rotate_left; (focus assumption)))
        refine HPA.out.mono ?_
        rintro e w8 ⟨rfl, hwt, hr8⟩
        rw [List.nil_append] at hwt
        have HT8 := Lib.hid hwt
        have HF28 := Lib.hid (show Fresh w8 w6.heap.size from (hr8.2.1 _ HF2.out.lt (by have := HS6.out; omega) (by rw [HF1.out.row]; simp)).trans HF2.out)
        have HA8 := Lib.hid (HA7.out.below hr8.1 HLT.out.1)
        have HB8 := Lib.hid (HB7.out.below hr8.1 HLT.out.2.1)
        have HW8 := Lib.hid (HW7.out.trans (hr8.1.mono HLT.out.2.2))
        have ro := HB8.out.range
        clear hwt hr8 HPA HF1 HF2 HA7 HB7 HW7
        have HPB := Lib.hid (putop_any w6.heap.size w6.heap.size b [] w8 HF28.out.wtr HOB.out (by decide))
        go_wp2_with (first | (refine wpList_load_midg (by rfl) 59 _ rfl _ _ rfl (OpR.cells ?_) _ ?_ Try.underlying59 rfl (oinfo _) ?_; rotate_left; (focus assumption)))
        refine HPB.out.mono ?_
        rintro e w9 ⟨rfl, hwt, hr9⟩
        rw [List.nil_append] at hwt
        have HU9 := Lib.hid hwt
        have HT9 := Lib.hid (Wtr.other HT8.out (show W5.heap.size ≠ w6.heap.size by have := HS6.out; omega) HF28.out hr9)
        have HA9 := Lib.hid (HA8.out.below hr9.1 (by have := HS6.out; have := HLT.out.1; omega))
        have HB9 := Lib.hid (HB8.out.below hr9.1 (by have := HS6.out; have := HLT.out.2.1; omega))
        have HW9 := Lib.hid (HW8.out.trans (hr9.1.mono (by have := HS6.out; have := HLT.out.2.2; omega)))
        clear hwt hr9 HPB HF28 HA8 HB8 HW8 HT8 ro
        have HLA := Lib.hid (encO_len HOA.out)
        have HLB := Lib.hid (encO_len HOB.out)
        have HPA := Lib.hid (encO_pos a)
        have HPB := Lib.hid (encO_pos b)
        obtain ⟨x, hx⟩ := get0 HPA.out
        obtain ⟨y, hy⟩ := get0 HPB.out
        obtain ⟨E, hE⟩ : ∃ E, E = encO a := ⟨_, rfl⟩
        obtain ⟨F, hF⟩ : ∃ F, F = encO b := ⟨_, rfl⟩
        have HXA := Lib.hid (show x = a.k.toNat from by have := HFST.out; rw [hx] at this; simpa using this)
        have HYB := Lib.hid (show mayO b = true → y = b.k.toNat from fun h => by have := encO_first h; rw [hy] at this; simpa using this)
        have HKA := Lib.hid (show 0 ≤ a.k by omega)
        have HKB := Lib.hid (show mayO b = true → 0 ≤ b.k from fun h => by obtain ⟨k, _, e, _⟩ := may_facts h; omega)
        rw [← hE] at hx HLA HPA HT9
        rw [← hF] at hy HLB HPB HU9
        have HX := Lib.hid hx
        have HY := Lib.hid hy
        clear hx hy hE hF f1 f2 f3 f10 hm HFST
        go_wp2_with fail
        refine (bytes_any W5.heap.size W5.heap.size E w9 HT9.out (by have := HLA.out; omega)).mono ?_
        rintro e w10 ⟨v10, rfl, hown, hb⟩
        obtain ⟨P1, c1, rfl, _, hA1, _⟩ := own_byr hown
        have HQ1 := Lib.hid hA1
        have HA10 := Lib.hid (HA9.out.next hb)
        have HB10 := Lib.hid (HB9.out.next hb)
        have HW10 := Lib.hid (HW9.out.trans (hb.mono HW9.out.size))
        have HU10 := Lib.hid (HU9.out.next hb)
        clear hown hA1 hb HA9 HB9 HW9 HU9 HT9
        go_wp2_with fail
        refine (bytes_any w6.heap.size w6.heap.size F w10 HU10.out (by have := HLB.out; omega)).mono ?_
        rintro e w11 ⟨v11, rfl, hown, hb⟩
        obtain ⟨P2, c2, rfl, _, hA2, _⟩ := own_byr hown
        obtain ⟨q1, o1, rfl, hc1⟩ := ByR.first (HQ1.out.next hb) HPA.out
        obtain ⟨q2, o2, rfl, hc2⟩ := ByR.first hA2 HPB.out
        have cx := hc1 x HX.out
        have cy := hc2 y HY.out
        obtain ⟨_, ca, _, _, _⟩ := op_all (HA10.out.next hb)
        obtain ⟨rb, cb, _, _, _⟩ := op_all (HB10.out.next hb)
        have HW11 := Lib.hid (HW10.out.trans (hb.mono HW10.out.size))
        have l1 : (0 : Int) < (E.length : Nat) := by have := HPA.out; omega
        have l2 : (0 : Int) < (F.length : Nat) := by have := HPB.out; omega
        have l3 : 0 < E.length := HPA.out
        have l4 : 0 < F.length := HPB.out
        have HMB := Lib.hid (may_any b)
        clear hown hA2 hc1 hc2 hb HA10 HB10 HW10 HU10 HQ1
        go_wp2_with fail
        cases hm : mayO b with
        | false =>
          rw [hm] at HMB
          clear hm HYB HKB HXA HKA
          refine wp_region_tree (S := (fun W' => W'.rangeAt b2 0 b.cells ∧ W'.cell? ⟨b1, 0, none⟩ = some (.int .i64 a.k) ∧ W'.cell? ⟨b2, 0, none⟩ = some (.int .i64 b.k) ∧ W'.cell? ⟨q1, o1, none⟩ = some (.int .u8 (x : Nat)) ∧ W'.cell? ⟨q2, o2, none⟩ = some (.int .u8 (y : Nat)) ∧ Below w11.heap.size w11 W')) (.one 0 (.take 1 (.take 2 (.take 3 (.take 4 (.take 5 (.take 6 (.take 7 (.one 8 (.take 9 (.take 10 (.take 11 (.take 12 (.take 13 (.take 14 (.take 15 (.take 16 (.take 17 (.take 18 (.take 19 (.take 20 (.take 21 (.take 22 (.take 23 (.take 24 (.take 25 (.take 26 (.take 27 (.take 28 (.take 29 (.take 30 (.take 31 .nil)))))))))))))))))))))))))))))))) 9999 (by kernel_rfl) (by kernel_rfl) (by kernel_rfl) (by kernel_rfl) (by kernel_rfl) (fun _ _ d _ _ h => by cases d <;> exact h) ?_ (fun hHeld => ?_); (focus (exact ⟨rb, ca, cb, cx, cy, (Below.refl _ _).drew⟩)); simp only [Tree.map, List.getElem?_toArray, List.getElem?_cons_zero, List.getElem?_cons_succ]
          (repeat (first | (refine wpTree.take (v := undef) (Or.inr ⟨by rfl, rfl⟩) ?_; simp only [Act.put, List.setIfInBounds_toArray, List.set_cons_zero, List.set_cons_succ]) | (refine wpTree.take (v := .agg (OpR.cells ?_).toArray) (yieldsIf_load_mid rfl 59 _ rfl _ _ rfl (OpR.cells _) _ ?_ Try.underlying59 rfl (oinfo _)) ?_; rotate_left; (focus (intro _ hS; exact hS.1)); simp only [Act.put, List.setIfInBounds_toArray, List.set_cons_zero, List.set_cons_succ]) | (refine wpTree.take (v := ?_) (Or.inl ⟨by rfl, ?_⟩) ?_; rotate_left; (focus (intro _ hS; (try dsimp only at hS); go_split_ands; (try subst hS); go_simp; (try (with_reducible rfl)); done)); simp only [Act.put, List.setIfInBounds_toArray, List.set_cons_zero, List.set_cons_succ])))
          refine wpTree.one (fun K hK => ?_)
          go_simp
          go_at_call 21
          refine (alive6_any _).mono ?_
          rintro e w12 ⟨rfl, hbw12⟩
          refine hK.out _ _ (⟨range_next hbw12 hHeld.1, cell_next hbw12 hHeld.2.1, cell_next hbw12 hHeld.2.2.1, cell_next hbw12 hHeld.2.2.2.1, cell_next hbw12 hHeld.2.2.2.2.1, Below.trans hHeld.2.2.2.2.2 (hbw12.mono (Below.size hHeld.2.2.2.2.2))⟩) (fun hHeld' => ?_)
          clear hK K hHeld hbw12
          have hHeld := hHeld'
          clear hHeld'
          (repeat (first | (refine wpTree.take (v := undef) (Or.inr ⟨by rfl, rfl⟩) ?_; simp only [Act.put, List.setIfInBounds_toArray, List.set_cons_zero, List.set_cons_succ]) | (refine wpTree.take (v := .agg (OpR.cells ?_).toArray) (yieldsIf_load_mid rfl 59 _ rfl _ _ rfl (OpR.cells _) _ ?_ Try.underlying59 rfl (oinfo _)) ?_; rotate_left; (focus (intro _ hS; exact hS.1)); simp only [Act.put, List.setIfInBounds_toArray, List.set_cons_zero, List.set_cons_succ]) | (refine wpTree.take (v := ?_) (Or.inl ⟨by rfl, ?_⟩) ?_; rotate_left; (focus (intro _ hS; (try dsimp only at hS); go_split_ands; (try subst hS); go_simp; (try (with_reducible rfl)); done)); simp only [Act.put, List.setIfInBounds_toArray, List.set_cons_zero, List.set_cons_succ])))
          refine wpTree.one (fun K hK => ?_)
          go_simp
          go_at_call 28
          refine (HMB.out _).mono ?_
          rintro e w13 ⟨rfl, hbw13⟩
          refine hK.out _ _ (⟨range_next hbw13 hHeld.1, cell_next hbw13 hHeld.2.1, cell_next hbw13 hHeld.2.2.1, cell_next hbw13 hHeld.2.2.2.1, cell_next hbw13 hHeld.2.2.2.2.1, Below.trans hHeld.2.2.2.2.2 (hbw13.mono (Below.size hHeld.2.2.2.2.2))⟩) (fun hHeld' => ?_)
          clear hK K hHeld hbw13
          have hHeld := hHeld'
          clear hHeld'
          (repeat (first | (refine wpTree.take (v := undef) (Or.inr ⟨by rfl, rfl⟩) ?_; simp only [Act.put, List.setIfInBounds_toArray, List.set_cons_zero, List.set_cons_succ]) | (refine wpTree.take (v := .agg (OpR.cells ?_).toArray) (yieldsIf_load_mid rfl 59 _ rfl _ _ rfl (OpR.cells _) _ ?_ Try.underlying59 rfl (oinfo _)) ?_; rotate_left; (focus (intro _ hS; exact hS.1)); simp only [Act.put, List.setIfInBounds_toArray, List.set_cons_zero, List.set_cons_succ]) | (refine wpTree.take (v := ?_) (Or.inl ⟨by rfl, ?_⟩) ?_; rotate_left; (focus (intro _ hS; (try dsimp only at hS); go_split_ands; (try subst hS); go_simp; (try (with_reducible rfl)); done)); simp only [Act.put, List.setIfInBounds_toArray, List.set_cons_zero, List.set_cons_succ])))
          refine wpTree.done ?_
          have HF := Lib.hid (HW11.out.trans (hHeld.2.2.2.2.2.mono HW11.out.size))
          clear hHeld rb ca cb cx cy
          go_wp2_with fail
          go_ret
          exact ⟨rfl, HF.out⟩
        | true =>
          rw [hm] at HMB
          have hyb := HYB.out hm
          have hkb := HKB.out hm
          have hxa := HXA.out
          have hka := HKA.out
          by_cases hk : a.k = b.k
          · have q1' : ((x : Int) == (y : Int)) = true := by rw [hxa, hyb, hk]; simp
            have q2' : (a.k == b.k) = true := by simp [hk]
            clear hk hyb hkb hxa hka hm
            refine wp_region_tree (S := (fun W' => W'.rangeAt b2 0 b.cells ∧ W'.cell? ⟨b1, 0, none⟩ = some (.int .i64 a.k) ∧ W'.cell? ⟨b2, 0, none⟩ = some (.int .i64 b.k) ∧ W'.cell? ⟨q1, o1, none⟩ = some (.int .u8 (x : Nat)) ∧ W'.cell? ⟨q2, o2, none⟩ = some (.int .u8 (y : Nat)) ∧ Below w11.heap.size w11 W')) (.one 0 (.take 1 (.take 2 (.take 3 (.take 4 (.take 5 (.take 6 (.take 7 (.one 8 (.take 9 (.take 10 (.take 11 (.take 12 (.take 13 (.take 14 (.take 15 (.take 16 (.take 17 (.take 18 (.take 19 (.take 20 (.take 21 (.take 22 (.take 23 (.take 24 (.take 25 (.take 26 (.take 27 (.take 28 (.take 29 (.take 30 (.take 31 .nil)))))))))))))))))))))))))))))))) 9999 (by kernel_rfl) (by kernel_rfl) (by kernel_rfl) (by kernel_rfl) (by kernel_rfl) (fun _ _ d _ _ h => by cases d <;> exact h) ?_ (fun hHeld => ?_); (focus (exact ⟨rb, ca, cb, cx, cy, (Below.refl _ _).drew⟩)); simp only [Tree.map, List.getElem?_toArray, List.getElem?_cons_zero, List.getElem?_cons_succ]
            (repeat (first | (refine wpTree.take (v := undef) (Or.inr ⟨by rfl, rfl⟩) ?_; simp only [Act.put, List.setIfInBounds_toArray, List.set_cons_zero, List.set_cons_succ]) | (refine wpTree.take (v := .agg (OpR.cells ?_).toArray) (yieldsIf_load_mid rfl 59 _ rfl _ _ rfl (OpR.cells _) _ ?_ Try.underlying59 rfl (oinfo _)) ?_; rotate_left; (focus (intro _ hS; exact hS.1)); simp only [Act.put, List.setIfInBounds_toArray, List.set_cons_zero, List.set_cons_succ]) | (refine wpTree.take (v := ?_) (Or.inl ⟨by rfl, ?_⟩) ?_; rotate_left; (focus (intro _ hS; (try dsimp only at hS); go_split_ands; (try subst hS); go_simp; (try (with_reducible rfl)); done)); simp only [Act.put, List.setIfInBounds_toArray, List.set_cons_zero, List.set_cons_succ])))
            refine wpTree.one (fun K hK => ?_)
            go_simp
            go_at_call 21
            refine (alive6_any _).mono ?_
            rintro e w12 ⟨rfl, hbw12⟩
            refine hK.out _ _ (⟨range_next hbw12 hHeld.1, cell_next hbw12 hHeld.2.1, cell_next hbw12 hHeld.2.2.1, cell_next hbw12 hHeld.2.2.2.1, cell_next hbw12 hHeld.2.2.2.2.1, Below.trans hHeld.2.2.2.2.2 (hbw12.mono (Below.size hHeld.2.2.2.2.2))⟩) (fun hHeld' => ?_)
            clear hK K hHeld hbw12
            have hHeld := hHeld'
            clear hHeld'
            (repeat (first | (refine wpTree.take (v := undef) (Or.inr ⟨by rfl, rfl⟩) ?_; simp only [Act.put, List.setIfInBounds_toArray, List.set_cons_zero, List.set_cons_succ]) | (refine wpTree.take (v := .agg (OpR.cells ?_).toArray) (yieldsIf_load_mid rfl 59 _ rfl _ _ rfl (OpR.cells _) _ ?_ Try.underlying59 rfl (oinfo _)) ?_; rotate_left; (focus (intro _ hS; exact hS.1)); simp only [Act.put, List.setIfInBounds_toArray, List.set_cons_zero, List.set_cons_succ]) | (refine wpTree.take (v := ?_) (Or.inl ⟨by rfl, ?_⟩) ?_; rotate_left; (focus (intro _ hS; (try dsimp only at hS); go_split_ands; (try subst hS); go_simp; (try (with_reducible rfl)); done)); simp only [Act.put, List.setIfInBounds_toArray, List.set_cons_zero, List.set_cons_succ])))
            refine wpTree.one (fun K hK => ?_)
            go_simp
            go_at_call 28
            refine (HMB.out _).mono ?_
            rintro e w13 ⟨rfl, hbw13⟩
            refine hK.out _ _ (⟨range_next hbw13 hHeld.1, cell_next hbw13 hHeld.2.1, cell_next hbw13 hHeld.2.2.1, cell_next hbw13 hHeld.2.2.2.1, cell_next hbw13 hHeld.2.2.2.2.1, Below.trans hHeld.2.2.2.2.2 (hbw13.mono (Below.size hHeld.2.2.2.2.2))⟩) (fun hHeld' => ?_)
            clear hK K hHeld hbw13
            have hHeld := hHeld'
            clear hHeld'
            (repeat (first | (refine wpTree.take (v := undef) (Or.inr ⟨by rfl, rfl⟩) ?_; simp only [Act.put, List.setIfInBounds_toArray, List.set_cons_zero, List.set_cons_succ]) | (refine wpTree.take (v := .agg (OpR.cells ?_).toArray) (yieldsIf_load_mid rfl 59 _ rfl _ _ rfl (OpR.cells _) _ ?_ Try.underlying59 rfl (oinfo _)) ?_; rotate_left; (focus (intro _ hS; exact hS.1)); simp only [Act.put, List.setIfInBounds_toArray, List.set_cons_zero, List.set_cons_succ]) | (refine wpTree.take (v := ?_) (Or.inl ⟨by rfl, ?_⟩) ?_; rotate_left; (focus (intro _ hS; (try dsimp only at hS); go_split_ands; (try subst hS); go_simp; (try (with_reducible rfl)); done)); simp only [Act.put, List.setIfInBounds_toArray, List.set_cons_zero, List.set_cons_succ])))
            refine wpTree.done ?_
            have HF := Lib.hid (HW11.out.trans (hHeld.2.2.2.2.2.mono HW11.out.size))
            clear hHeld rb ca cb cx cy
            go_wp2_with fail
            go_ret
            exact ⟨rfl, HF.out⟩
          · have q1' : ((x : Int) == (y : Int)) = false := by simp; omega
            have q2' : (a.k == b.k) = false := by simpa using hk
            clear hk hyb hkb hxa hka hm
            refine wp_region_tree (S := (fun W' => W'.rangeAt b2 0 b.cells ∧ W'.cell? ⟨b1, 0, none⟩ = some (.int .i64 a.k) ∧ W'.cell? ⟨b2, 0, none⟩ = some (.int .i64 b.k) ∧ W'.cell? ⟨q1, o1, none⟩ = some (.int .u8 (x : Nat)) ∧ W'.cell? ⟨q2, o2, none⟩ = some (.int .u8 (y : Nat)) ∧ Below w11.heap.size w11 W')) (.one 0 (.take 1 (.take 2 (.take 3 (.take 4 (.take 5 (.take 6 (.take 7 (.one 8 (.take 9 (.take 10 (.take 11 (.take 12 (.take 13 (.take 14 (.take 15 (.take 16 (.take 17 (.take 18 (.take 19 (.take 20 (.take 21 (.take 22 (.take 23 (.take 24 (.take 25 (.take 26 (.take 27 (.take 28 (.take 29 (.take 30 (.take 31 .nil)))))))))))))))))))))))))))))))) 9999 (by kernel_rfl) (by kernel_rfl) (by kernel_rfl) (by kernel_rfl) (by kernel_rfl) (fun _ _ d _ _ h => by cases d <;> exact h) ?_ (fun hHeld => ?_); (focus (exact ⟨rb, ca, cb, cx, cy, (Below.refl _ _).drew⟩)); simp only [Tree.map, List.getElem?_toArray, List.getElem?_cons_zero, List.getElem?_cons_succ]
            (repeat (first | (refine wpTree.take (v := undef) (Or.inr ⟨by rfl, rfl⟩) ?_; simp only [Act.put, List.setIfInBounds_toArray, List.set_cons_zero, List.set_cons_succ]) | (refine wpTree.take (v := .agg (OpR.cells ?_).toArray) (yieldsIf_load_mid rfl 59 _ rfl _ _ rfl (OpR.cells _) _ ?_ Try.underlying59 rfl (oinfo _)) ?_; rotate_left; (focus (intro _ hS; exact hS.1)); simp only [Act.put, List.setIfInBounds_toArray, List.set_cons_zero, List.set_cons_succ]) | (refine wpTree.take (v := ?_) (Or.inl ⟨by rfl, ?_⟩) ?_; rotate_left; (focus (intro _ hS; (try dsimp only at hS); go_split_ands; (try subst hS); go_simp; (try (with_reducible rfl)); done)); simp only [Act.put, List.setIfInBounds_toArray, List.set_cons_zero, List.set_cons_succ])))
            refine wpTree.one (fun K hK => ?_)
            go_simp
            go_at_call 21
            refine (alive6_any _).mono ?_
            rintro e w12 ⟨rfl, hbw12⟩
            refine hK.out _ _ (⟨range_next hbw12 hHeld.1, cell_next hbw12 hHeld.2.1, cell_next hbw12 hHeld.2.2.1, cell_next hbw12 hHeld.2.2.2.1, cell_next hbw12 hHeld.2.2.2.2.1, Below.trans hHeld.2.2.2.2.2 (hbw12.mono (Below.size hHeld.2.2.2.2.2))⟩) (fun hHeld' => ?_)
            clear hK K hHeld hbw12
            have hHeld := hHeld'
            clear hHeld'
            (repeat (first | (refine wpTree.take (v := undef) (Or.inr ⟨by rfl, rfl⟩) ?_; simp only [Act.put, List.setIfInBounds_toArray, List.set_cons_zero, List.set_cons_succ]) | (refine wpTree.take (v := .agg (OpR.cells ?_).toArray) (yieldsIf_load_mid rfl 59 _ rfl _ _ rfl (OpR.cells _) _ ?_ Try.underlying59 rfl (oinfo _)) ?_; rotate_left; (focus (intro _ hS; exact hS.1)); simp only [Act.put, List.setIfInBounds_toArray, List.set_cons_zero, List.set_cons_succ]) | (refine wpTree.take (v := ?_) (Or.inl ⟨by rfl, ?_⟩) ?_; rotate_left; (focus (intro _ hS; (try dsimp only at hS); go_split_ands; (try subst hS); go_simp; (try (with_reducible rfl)); done)); simp only [Act.put, List.setIfInBounds_toArray, List.set_cons_zero, List.set_cons_succ])))
            refine wpTree.one (fun K hK => ?_)
            go_simp
            go_at_call 28
            refine (HMB.out _).mono ?_
            rintro e w13 ⟨rfl, hbw13⟩
            refine hK.out _ _ (⟨range_next hbw13 hHeld.1, cell_next hbw13 hHeld.2.1, cell_next hbw13 hHeld.2.2.1, cell_next hbw13 hHeld.2.2.2.1, cell_next hbw13 hHeld.2.2.2.2.1, Below.trans hHeld.2.2.2.2.2 (hbw13.mono (Below.size hHeld.2.2.2.2.2))⟩) (fun hHeld' => ?_)
            clear hK K hHeld hbw13
            have hHeld := hHeld'
            clear hHeld'
            (repeat (first | (refine wpTree.take (v := undef) (Or.inr ⟨by rfl, rfl⟩) ?_; simp only [Act.put, List.setIfInBounds_toArray, List.set_cons_zero, List.set_cons_succ]) | (refine wpTree.take (v := .agg (OpR.cells ?_).toArray) (yieldsIf_load_mid rfl 59 _ rfl _ _ rfl (OpR.cells _) _ ?_ Try.underlying59 rfl (oinfo _)) ?_; rotate_left; (focus (intro _ hS; exact hS.1)); simp only [Act.put, List.setIfInBounds_toArray, List.set_cons_zero, List.set_cons_succ]) | (refine wpTree.take (v := ?_) (Or.inl ⟨by rfl, ?_⟩) ?_; rotate_left; (focus (intro _ hS; (try dsimp only at hS); go_split_ands; (try subst hS); go_simp; (try (with_reducible rfl)); done)); simp only [Act.put, List.setIfInBounds_toArray, List.set_cons_zero, List.set_cons_succ])))
            refine wpTree.done ?_
            have HF := Lib.hid (HW11.out.trans (hHeld.2.2.2.2.2.mono HW11.out.size))
            clear hHeld rb ca cb cx cy
            go_wp2_with fail
            go_ret
            exact ⟨rfl, HF.out⟩

set_option maxRecDepth 100000 in
theorem opwhose_lifted (os : Os) (started : os.Started) (H : Type) (enc : TypeId × Value → H) :
    ReturnsInHanded {} Try.checked os 8 .any (Rows.opWhoseSpec.pre6 enc Try.prog Try.f8 Rows.opWhoseRow.domain false) (Rows.opWhoseSpec.post enc Try.prog Try.f8 false true false false) := by
  refine law_lift (C := Try.checked) own_knob started (by kernel_rfl) Try.func8 rfl Try.underlying4 laid_out (by kernel_rfl) rfl ?_
    (ChangeSpec.witness6 (enc := enc) (C := Try.checked) false ⟨#[], #[.agg #[.int .i64 0, .int .i64 0, .int .i64 0, .int .u64 0], .agg #[.int .i64 0, .int .i64 0, .int .i64 0, .int .u64 0]], []⟩ 8 (by kernel_rfl) (by kernel_rfl) (by kernel_rfl) (by kernel_rfl)) ?_
  · intro ds hds
    match ds, hds with
    | [_, _], _ => rfl
  intro W base args ds ps hval hA hlt hsz
  rw [Try.params8] at hA hval
  obtain ⟨v0, vs0, d0, ds0, p0, q0, hargs, rfl, rfl, h0, r0⟩ := trodAll_cons hA
  obtain ⟨v1, vs1, d1, ds1, p1, q1, rfl, rfl, rfl, h1, r1⟩ := trodAll_cons r0
  obtain ⟨rfl, rfl, rfl⟩ := trodAll_nil r1
  obtain rfl : args = #[v0, v1] := by cases args; simp_all
  obtain ⟨a, rfl, ha⟩ := open_plain (hval 0 48 v0 rfl rfl) h0
  obtain ⟨b, rfl, hb⟩ := open_plain (hval 1 48 v1 rfl rfl) h1
  exact opwhose_walk a b ha hb W

theorem opwhose_holds : Rows.OpWhoseSaid :=
  OpenClaim.holds_of_wide 8 Try.f8 rfl rfl rfl rfl rfl rfl rfl ⟨rfl, rfl, rfl, rfl, rfl⟩ rfl rfl rfl rfl rfl (by kernel_rfl) Try.func8 (by kernel_rfl)
    (of_decide_eq_true (by kernel_rfl)) (by unfold Func.isWrapper; first | (rw [if_pos (by decide +kernel)]; kernel_rfl) | (rw [if_neg (by decide +kernel)]; exact ⟨rfl, rfl⟩))
    (fun os started H enc _ => opwhose_lifted os started H enc)


end Go.Proofs.Ytpimhohballafaa

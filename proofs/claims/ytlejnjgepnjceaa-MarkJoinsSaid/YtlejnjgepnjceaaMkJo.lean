/-
MarkJoins holds: which marks may be, are equal and cover each other, and the join of any many, is told; and what the makers make. No condition.
-/
import Derived.Test.YtlejnjgepnjceaaMkRJ
import Derived.Test.YtlejnjgepnjceaaMkRB
import Derived.Test.YtlejnjgepnjceaaInv
import Derived.Test.YtlejnjgepnjceaaMkOpen
import Derived.Deep.CutRange
namespace Go.Proofs.Ytlejnjgepnjceaa
open Go.RowKit
set_option linter.unusedSimpArgs false
set_option linter.unusedVariables false
attribute [local go_sem] Tot.run_store_float

theorem flagM_eq (n : Int) : flagM n = if 0 ≤ n ∧ n < 4 then ⟨n, false, 0⟩ else zM := by
  by_cases h : 0 ≤ n ∧ n < 4
  · rw [if_pos h]
    exact joinM_one (RM.of (Or.inr rfl) h.1 (show n ≤ 3 by omega) (show 0 < 18446744073709551616 by decide))
  · rw [if_neg h]
    refine joinM_no ?_
    unfold rightM
    have : (decide (0 ≤ n) && decide (n ≤ 3)) = false := by rw [Bool.and_eq_false_iff, decide_eq_false_iff_not, decide_eq_false_iff_not]; omega
    rw [this, Bool.and_false]

theorem built_rmk2 (p : Nat) : Try.prog.built 63 [(1, .bool true), (2, .int .u64 (p : Nat))] = some (Mk.mk 0 true p).rcells.toArray := by
  rw [built_rmk_fill, rmk_arr]
  rfl
set_option maxRecDepth 20000 in
set_option maxHeartbeats 16000000 in
theorem joins_walk (A : Option Addr) (n c : Nat) (l : List Mk) (a b : Mk) (fl : Int) (pr : Nat) (W : World) (hn : l.length = n) (hlen : n ≤ 9223372036854775807) (hfl : -9223372036854775808 ≤ fl ∧ fl < 9223372036854775808) (h : RMks W A l) (hp : ∀ m ∈ l, m.p < 18446744073709551616) (ha : a.p < 18446744073709551616) (hb : b.p < 18446744073709551616) (hpr : pr < 18446744073709551616) :
    Calls Try.prog 4 #[.slice A n c, .agg a.rcells.toArray, .agg b.rcells.toArray, .int .i64 fl, .int .u64 (pr : Nat)] W fun e W' => e = .returned (.bool true) ∧ Below W.heap.size W W' := by
  have HP := Lib.hid hp
  have HN := Lib.hid hn
  have HV := Lib.hid h
  have HFL := Lib.hid hfl
  have HPA := Lib.hid ha
  have HPB := Lib.hid hb
  have HPR := Lib.hid hpr
  have hsz : (W.alloc (.cells a.rcells.toArray 63)).heap.size = W.heap.size + 1 := by simp
  have bA := (Blk.new W 63 a.rcells.toArray).alloc (.cells b.rcells.toArray 63)
  have bB := Blk.new (W.alloc (.cells a.rcells.toArray 63)) 63 b.rcells.toArray
  rw [hsz] at bB
  have hB0 := ((Below.refl W.heap.size W).alloc (Nat.le_refl _) (.cells a.rcells.toArray 63)).alloc (by rw [hsz]; omega) (.cells b.rcells.toArray 63)
  clear hp hn h hfl ha hb hpr hsz
  go_enter Try.func4, Try.ntmps4
  go_upto_region 1 with fail
  obtain ⟨w0, hw0⟩ : ∃ w0, w0 = (W.alloc (.cells a.rcells.toArray 63)).alloc (.cells b.rcells.toArray 63) := ⟨_, rfl⟩
  rw [← hw0] at bA bB hB0 ⊢
  have HB := Lib.hid hB0
  have HA1 := Lib.hid bA
  have HA2 := Lib.hid bB
  have HG2 := Lib.hid (show W.heap.size + 1 < w0.heap.size from bB.lt)
  clear hw0 bA bB hB0
  by_cases hbig : n ≤ 100
  · have h1 : ¬ (100 : Int) < (n : Nat) := by omega
    go_upto_region 4 with fail
    have hb1 := (Below.refl w0.heap.size w0).alloc (Nat.le_refl _) (.cells #[.int .i64 0, .bool false, .int .u64 0] 63)
    have bW := Blk.new w0 63 #[.int .i64 0, .bool false, .int .u64 0]
    obtain ⟨w1, hw1⟩ : ∃ w1, w1 = w0.alloc (.cells #[.int .i64 0, .bool false, .int .u64 0] 63) := ⟨_, rfl⟩
    rw [← hw1] at hb1 bW ⊢
    clear hw1
    replace HB := Lib.hid (HB.out.trans (hb1.mono HB.out.size))
    replace HA1 := Lib.hid (HA1.out.next hb1)
    replace HA2 := Lib.hid (HA2.out.next hb1)
    have HSZ := Lib.hid (show W.heap.size + 1 < w0.heap.size from HG2.out)
    go_cut [25] from 20 to 24 (fun x wx => x = .bool (decide (0 ≤ fl ∧ fl < 4)) ∧ wx = w1)
    case first =>
      by_cases f1 : 0 ≤ fl
      · by_cases f2 : fl < 4
        · go_wp2_with fail
          go_meet
          exact ⟨by rw [decide_eq_true (show 0 ≤ fl ∧ fl < 4 from ⟨f1, f2⟩)], rfl⟩
        · go_wp2_with fail
          go_meet
          exact ⟨by rw [decide_eq_false (show ¬ (0 ≤ fl ∧ fl < 4) from fun h => by have := h.2; omega)], rfl⟩
      · go_wp2_with fail
        go_meet
        exact ⟨by rw [decide_eq_false (show ¬ (0 ≤ fl ∧ fl < 4) from fun h => by have := h.1; omega)], rfl⟩
    case rest =>
      obtain ⟨rfl, rfl⟩ := hcut
      rename World => w1
      have GW := Lib.hid bW
      go_upto_if 25 with fail
      go_cut [] from 25 to 27 (fun wx => Blk wx W.heap.size 63 a.rcells.toArray ∧ Blk wx (W.heap.size + 1) 63 b.rcells.toArray ∧ Blk wx w0.heap.size 63 (flagM fl).rcells.toArray ∧ Below W.heap.size W wx)
      case first =>
        by_cases hw : 0 ≤ fl ∧ fl < 4
        · rw [decide_eq_true hw]
          have z1 := bW.cell 0
          have z2 := bW.frozen 0
          simp only [List.getElem?_toArray, List.getElem?_cons_succ, List.getElem?_cons_zero] at z1
          go_wp2_with fail
          go_meet
          exact ⟨HA1.out.far (by show W.heap.size ≠ w0.heap.size; have := HG2.out; omega) _, HA2.out.far (by show W.heap.size + 1 ≠ w0.heap.size; have := HG2.out; omega) _, by rw [flagM_eq, if_pos hw, rmk_arr]; exact GW.out.setCell 0 (.int .i64 fl), HB.out.setCell (by show W.heap.size ≤ w0.heap.size; have := HG2.out; omega) _⟩
        · rw [decide_eq_false hw]
          go_wp2_with fail
          go_meet
          exact ⟨HA1.out, HA2.out, by rw [flagM_eq, if_neg hw, rmk_arr]; exact GW.out, HB.out⟩
      case rest =>
        obtain ⟨j1, j2, j3, j4⟩ := hcut
        replace HA1 := Lib.hid j1
        replace HA2 := Lib.hid j2
        replace HB := Lib.hid j4
        have HW := Lib.hid j3
        rename World => x1
        have ra := j1.range
        have rb := j2.range
        clear j1 j2 j3 j4 hb1 bW GW
        go_upto_region 6 with fail
        go_cut [12, 13] from 28 to 31 (fun p1 p2 wx => ∃ g1 g2 : Nat, p1 = .pointer (some ⟨g1, 0, none⟩) ∧ p2 = .pointer (some ⟨g2, 0, none⟩) ∧ Blk wx g1 65 a.cells.toArray ∧ Blk wx g2 65 b.cells.toArray ∧ Below x1.heap.size x1 wx)
        case first =>
          refine wp_region_inv (S := (fun w => Below x1.heap.size x1 w)) [0, 2] [1, 3, 4, 5, 6, 7] (by kernel_rfl) (by kernel_rfl) (by kernel_rfl) (by kernel_rfl) (by kernel_rfl) (fun _ _ d _ _ h => by cases d <;> exact h) ?_ (fun hHeld => ?_); (focus (exact (Below.refl _ _).drew)); simp only [takeTree, Tree.map, List.getElem?_toArray, List.getElem?_cons_zero, List.getElem?_cons_succ]
          refine wpTree.take (v := .agg (Mk.rcells a).toArray) (yieldsIf_load_mid rfl 63 _ rfl _ _ rfl (Mk.rcells _) _ (fun _ hS => mrange_next hS ra) Try.underlying63 rfl (rmkinfo _)) ?_
          simp only [Act.put, List.setIfInBounds_toArray, List.set_cons_zero, List.set_cons_succ]
          refine wpTree.take (v := .agg (Mk.rcells b).toArray) (yieldsIf_load_mid rfl 63 _ rfl _ _ rfl (Mk.rcells _) _ (fun _ hS => mrange_next hS rb) Try.underlying63 rfl (rmkinfo _)) ?_
          simp only [Act.put, List.setIfInBounds_toArray, List.set_cons_zero, List.set_cons_succ]
          refine wpTree.done ?_
          refine InvRest.of [(some 29, 1), (some 31, 3), (some 12, 4), (some 13, 5), (none, 6), (none, 7)] (fun d v w => Below x1.heap.size x1 w ∧ (d 1 = true → v 1 = .agg a.cells.toArray) ∧ (d 3 = true → v 3 = .agg b.cells.toArray) ∧ (d 4 = true → Box x1.heap.size w (v 4) 65 (if d 6 then a.cells.toArray else #[.int .i64 0, .bool false, .float .f64 0])) ∧ (d 5 = true → Box x1.heap.size w (v 5) 65 (if d 7 then b.cells.toArray else #[.int .i64 0, .bool false, .float .f64 0])) ∧ (d 4 = true → d 5 = true → v 4 ≠ v 5) ∧ (d 6 = true → d 4 = true) ∧ (d 7 = true → d 5 = true)) (by rfl) (by rfl) ?_ ?_ ?_ ?_
          · rintro d v w ⟨h, _⟩; exact h
          · intro v; exact ⟨(Below.refl _ _).drew, fun h => (by cases h), fun h => (by cases h), fun h => (by cases h), fun h => (by cases h), fun h => (by cases h), fun h => (by cases h), fun h => (by cases h)⟩
          · simp only [FKeepsAll, FKeeps1, List.getElem?_toArray, List.getElem?_cons_zero, List.getElem?_cons_succ]
            refine ⟨?op1, ?op3, ?op4, ?op5, ?op6, ?op7, trivial⟩
            case op4 =>
              rintro d v w hd hdep hF0 K hK; simp only [List.all_toArray, Array.all_toList, List.all_cons, List.all_nil, Region.binds, Bool.not_true, Bool.false_or, Bool.and_true, Bool.and_eq_true] at hdep; simp only [fillT, look, Nat.reduceEqDiff, Nat.reduceAdd, ite_true, ite_false] at hK ⊢; have HD := Lib.hid hdep; have HF := Lib.hid hF0; clear hdep hF0
              go_simp
              obtain ⟨hB, f1, f3, f4, f5, f45, f6, f7⟩ := HF.out
              have h6 := off_of f6 (nt hd)
              refine hK.out _ _ ?_
              simp only [upd, Nat.reduceEqDiff, ite_true, ite_false, Nat.reduceBEq, Bool.or_false, beq_self_eq_true, Bool.or_true, true_implies, forall_const]
              exact ⟨hB.alloc hB.size _, f1, f3, by rw [h6]; exact Box.new hB.size _ _, fun h => (f5 h).alloc _, fun h5 => (f5 h5).ne.symm, fun _ => trivial, f7⟩
            case op5 =>
              rintro d v w hd hdep hF0 K hK; simp only [List.all_toArray, Array.all_toList, List.all_cons, List.all_nil, Region.binds, Bool.not_true, Bool.false_or, Bool.and_true, Bool.and_eq_true] at hdep; simp only [fillT, look, Nat.reduceEqDiff, Nat.reduceAdd, ite_true, ite_false] at hK ⊢; have HD := Lib.hid hdep; have HF := Lib.hid hF0; clear hdep hF0
              go_simp
              obtain ⟨hB, f1, f3, f4, f5, f45, f6, f7⟩ := HF.out
              have h7 := off_of f7 (nt hd)
              refine hK.out _ _ ?_
              simp only [upd, Nat.reduceEqDiff, ite_true, ite_false, Nat.reduceBEq, Bool.or_false, beq_self_eq_true, Bool.or_true, true_implies, forall_const]
              exact ⟨hB.alloc hB.size _, f1, f3, fun h => (f4 h).alloc _, by rw [h7]; exact Box.new hB.size _ _, fun h4 => (f4 h4).ne, f6, fun _ => trivial⟩
            case op1 =>
              rintro d v w hd hdep hF0 K hK; simp only [List.all_toArray, Array.all_toList, List.all_cons, List.all_nil, Region.binds, Bool.not_true, Bool.false_or, Bool.and_true, Bool.and_eq_true] at hdep; simp only [fillT, look, Nat.reduceEqDiff, Nat.reduceAdd, ite_true, ite_false] at hK ⊢; have HD := Lib.hid hdep; have HF := Lib.hid hF0; clear hdep hF0
              go_simp
              go_at_call 29
              refine (mof_any a _).mono ?_
              rintro e w' ⟨rfl, hb⟩
              obtain ⟨hB, f1, f3, f4, f5, f45, f6, f7⟩ := HF.out
              refine hK.out _ _ ?_
              simp only [upd, Nat.reduceEqDiff, ite_true, ite_false, Nat.reduceBEq, Bool.or_false, beq_self_eq_true, Bool.or_true, true_implies, forall_const]
              exact ⟨hB.trans (hb.mono hB.size), trivial, f3, fun h => (f4 h).next hb, fun h => (f5 h).next hb, f45, f6, f7⟩
            case op3 =>
              rintro d v w hd hdep hF0 K hK; simp only [List.all_toArray, Array.all_toList, List.all_cons, List.all_nil, Region.binds, Bool.not_true, Bool.false_or, Bool.and_true, Bool.and_eq_true] at hdep; simp only [fillT, look, Nat.reduceEqDiff, Nat.reduceAdd, ite_true, ite_false] at hK ⊢; have HD := Lib.hid hdep; have HF := Lib.hid hF0; clear hdep hF0
              go_simp
              go_at_call 29
              refine (mof_any b _).mono ?_
              rintro e w' ⟨rfl, hb⟩
              obtain ⟨hB, f1, f3, f4, f5, f45, f6, f7⟩ := HF.out
              refine hK.out _ _ ?_
              simp only [upd, Nat.reduceEqDiff, ite_true, ite_false, Nat.reduceBEq, Bool.or_false, beq_self_eq_true, Bool.or_true, true_implies, forall_const]
              exact ⟨hB.trans (hb.mono hB.size), f1, trivial, fun h => (f4 h).next hb, fun h => (f5 h).next hb, f45, f6, f7⟩
            case op6 =>
              rintro d v w hd hdep hF0 K hK; simp only [List.all_toArray, Array.all_toList, List.all_cons, List.all_nil, Region.binds, Bool.not_true, Bool.false_or, Bool.and_true, Bool.and_eq_true] at hdep; simp only [fillT, look, Nat.reduceEqDiff, Nat.reduceAdd, ite_true, ite_false] at hK ⊢; have HD := Lib.hid hdep; have HF := Lib.hid hF0; clear hdep hF0
              obtain ⟨hB, f1, f3, f4, f5, f45, f6, f7⟩ := HF.out
              have d1 := HD.out.2.1
              have d4 := HD.out.1
              obtain ⟨g, e4, hl, hg⟩ := f4 d4
              rw [hd] at hg
              refine step_store_blk (a := ⟨_, _⟩) (by rfl) 65 _ _ rfl g 65 _ a.cells.toArray (by exact e4) (by exact f1 d1) hg (mkinfoA _) (mk_siz _) (mk_one _) ?_
              refine hK.out undef _ ?_
              simp only [upd, Nat.reduceEqDiff, ite_true, ite_false, Nat.reduceBEq, Bool.or_false, beq_self_eq_true, Bool.or_true, true_implies, forall_const]
              exact ⟨below_setRow hB hl _, f1, f3, fun h => ⟨g, e4, hl, hg.setRow _⟩, fun h => (f5 h).other (fun e => f45 d4 h (e4.trans e.symm)) _, f45, d4, f7⟩
            case op7 =>
              rintro d v w hd hdep hF0 K hK; simp only [List.all_toArray, Array.all_toList, List.all_cons, List.all_nil, Region.binds, Bool.not_true, Bool.false_or, Bool.and_true, Bool.and_eq_true] at hdep; simp only [fillT, look, Nat.reduceEqDiff, Nat.reduceAdd, ite_true, ite_false] at hK ⊢; have HD := Lib.hid hdep; have HF := Lib.hid hF0; clear hdep hF0
              obtain ⟨hB, f1, f3, f4, f5, f45, f6, f7⟩ := HF.out
              have d3 := HD.out.2.1
              have d5 := HD.out.1
              obtain ⟨g, e5, hl, hg⟩ := f5 d5
              rw [hd] at hg
              refine step_store_blk (a := ⟨_, _⟩) (by rfl) 65 _ _ rfl g 65 _ b.cells.toArray (by exact e5) (by exact f3 d3) hg (mkinfoA _) (mk_siz _) (mk_one _) ?_
              refine hK.out undef _ ?_
              simp only [upd, Nat.reduceEqDiff, ite_true, ite_false, Nat.reduceBEq, Bool.or_false, beq_self_eq_true, Bool.or_true, true_implies, forall_const]
              exact ⟨below_setRow hB hl _, f1, f3, fun h => (f4 h).other (fun e => f45 h d5 (e.trans e5.symm)) _, fun h => ⟨g, e5, hl, hg.setRow _⟩, f45, f6, d5⟩
          · skip
            rintro d v w hd ⟨hB, f1, f3, f4, f5, f45, f6, f7⟩
            obtain ⟨g1, e4, hl1, hg1⟩ := f4 (hd 4)
            obtain ⟨g2, e5, hl2, hg2⟩ := f5 (hd 5)
            rw [hd 6] at hg1
            rw [hd 7] at hg2
            simp only [fillT, look, Nat.reduceEqDiff, Nat.reduceAdd, ite_true, ite_false, e4, e5, f1 (hd 1), f3 (hd 3)]
            go_wp2_with fail
            go_meet
            exact ⟨g1, g2, rfl, rfl, hg1, hg2, hB⟩
        case rest =>
          obtain ⟨g1, g2, rfl, rfl, j1, j2, j3⟩ := hcut
          rename World => x2
          have HX := Lib.hid j1
          have HY := Lib.hid j2
          replace HB := Lib.hid (HB.out.trans (j3.mono HB.out.size))
          replace HA1 := Lib.hid (HA1.out.next j3)
          replace HA2 := Lib.hid (HA2.out.next j3)
          replace HW := Lib.hid (HW.out.next j3)
          clear j1 j2 j3 ra rb
          have rx := HX.out.range
          have ry := HY.out.range
          have ra := HA1.out.range
          have rb := HA2.out.range
          have rw2 := HW.out.range
          go_upto_region 7 with fail
          go_cut [14] from 32 to 45 (fun x wx => x = .bool (coversM a b) ∧ Below x2.heap.size x2 wx)
          case first =>
            cases hra : rightM a with
            | false =>
              have HC := Lib.hid (show coversM a b = false from by unfold coversM; rw [hra]; rfl)
              have RRA := rright_any a
              rw [hra] at RRA
              clear hra
              refine wp_region_tree (S := (fun w => Below x2.heap.size x2 w)) (.take 0 (.one 1 (.take 2 (.take 3 (.one 4 (.take 5 (.take 6 (.take 7 (.take 8 (.take 11 (.one 9 (.one 10 (.take 12 (.take 13 (.take 14 .nil))))))))))))))) 9999 (by kernel_rfl) (by kernel_rfl) (by kernel_rfl) (by kernel_rfl) (by kernel_rfl) (fun _ _ d _ _ h => by cases d <;> exact h) ?_ (fun hHeld => ?_); (focus (exact (Below.refl _ _).drew)); simp only [Tree.map, List.getElem?_toArray, List.getElem?_cons_zero, List.getElem?_cons_succ]
              (repeat (first | (refine wpTree.take (v := undef) (Or.inr ⟨by rfl, rfl⟩) ?_; simp only [Act.put, List.setIfInBounds_toArray, List.set_cons_zero, List.set_cons_succ]) | (refine wpTree.take (v := .agg (Mk.rcells ?_).toArray) (yieldsIf_load_mid rfl 63 _ rfl _ _ rfl (Mk.rcells _) _ ?_ Try.underlying63 rfl (rmkinfo _)) ?_; rotate_left; (focus (intro _ hS; refine mrange_next hS ?_; assumption)); simp only [Act.put, List.setIfInBounds_toArray, List.set_cons_zero, List.set_cons_succ]) | (refine wpTree.take (v := .agg (Mk.cells ?_).toArray) (yieldsIf_load_mid rfl 65 _ rfl _ _ rfl (Mk.cells _) _ ?_ Try.underlying65 rfl (mkinfo _)) ?_; rotate_left; (focus (intro _ hS; refine mrange_next hS ?_; assumption)); simp only [Act.put, List.setIfInBounds_toArray, List.set_cons_zero, List.set_cons_succ]) | (refine wpTree.take (yields_buildM (Mk.mk 0 true pr).rcells.toArray (by rfl) 63 [(1, _), (2, _)] rfl (built_rmk2 _)) ?_; simp only [Act.put, List.setIfInBounds_toArray, List.set_cons_zero, List.set_cons_succ]) | (refine wpTree.take (v := ?_) (Or.inl ⟨by rfl, ?_⟩) ?_; rotate_left; (focus (intro _ hS; (try dsimp only at hS); go_split_ands; (try subst hS); go_simp; (try (with_reducible rfl)); done)); simp only [Act.put, List.setIfInBounds_toArray, List.set_cons_zero, List.set_cons_succ])))
              refine wpTree.one (fun K hK => ?_)
              go_simp
              go_at_call 30
              refine (RRA _).mono ?_
              rintro e z7 ⟨rfl, hb⟩
              have hBelow := Below.trans hHeld (hb.mono (Below.size hHeld))
              refine hK.out _ _ hBelow (fun hHeld' => ?_)
              clear hK K hHeld hBelow hb
              have hHeld := hHeld'
              clear hHeld'
              (try simp only [Act.put, List.setIfInBounds_toArray, List.set_cons_zero, List.set_cons_succ])
              (repeat (first | (refine wpTree.take (v := undef) (Or.inr ⟨by rfl, rfl⟩) ?_; simp only [Act.put, List.setIfInBounds_toArray, List.set_cons_zero, List.set_cons_succ]) | (refine wpTree.take (v := .agg (Mk.rcells ?_).toArray) (yieldsIf_load_mid rfl 63 _ rfl _ _ rfl (Mk.rcells _) _ ?_ Try.underlying63 rfl (rmkinfo _)) ?_; rotate_left; (focus (intro _ hS; refine mrange_next hS ?_; assumption)); simp only [Act.put, List.setIfInBounds_toArray, List.set_cons_zero, List.set_cons_succ]) | (refine wpTree.take (v := .agg (Mk.cells ?_).toArray) (yieldsIf_load_mid rfl 65 _ rfl _ _ rfl (Mk.cells _) _ ?_ Try.underlying65 rfl (mkinfo _)) ?_; rotate_left; (focus (intro _ hS; refine mrange_next hS ?_; assumption)); simp only [Act.put, List.setIfInBounds_toArray, List.set_cons_zero, List.set_cons_succ]) | (refine wpTree.take (yields_buildM (Mk.mk 0 true pr).rcells.toArray (by rfl) 63 [(1, _), (2, _)] rfl (built_rmk2 _)) ?_; simp only [Act.put, List.setIfInBounds_toArray, List.set_cons_zero, List.set_cons_succ]) | (refine wpTree.take (v := ?_) (Or.inl ⟨by rfl, ?_⟩) ?_; rotate_left; (focus (intro _ hS; (try dsimp only at hS); go_split_ands; (try subst hS); go_simp; (try (with_reducible rfl)); done)); simp only [Act.put, List.setIfInBounds_toArray, List.set_cons_zero, List.set_cons_succ])))
              refine wpTree.one (fun K hK => ?_)
              go_simp
              refine hK.out _ _ hHeld (fun _ => ?_)
              clear hK K
              (try simp only [Act.put, List.setIfInBounds_toArray, List.set_cons_zero, List.set_cons_succ])
              (repeat (first | (refine wpTree.take (v := undef) (Or.inr ⟨by rfl, rfl⟩) ?_; simp only [Act.put, List.setIfInBounds_toArray, List.set_cons_zero, List.set_cons_succ]) | (refine wpTree.take (v := .agg (Mk.rcells ?_).toArray) (yieldsIf_load_mid rfl 63 _ rfl _ _ rfl (Mk.rcells _) _ ?_ Try.underlying63 rfl (rmkinfo _)) ?_; rotate_left; (focus (intro _ hS; refine mrange_next hS ?_; assumption)); simp only [Act.put, List.setIfInBounds_toArray, List.set_cons_zero, List.set_cons_succ]) | (refine wpTree.take (v := .agg (Mk.cells ?_).toArray) (yieldsIf_load_mid rfl 65 _ rfl _ _ rfl (Mk.cells _) _ ?_ Try.underlying65 rfl (mkinfo _)) ?_; rotate_left; (focus (intro _ hS; refine mrange_next hS ?_; assumption)); simp only [Act.put, List.setIfInBounds_toArray, List.set_cons_zero, List.set_cons_succ]) | (refine wpTree.take (yields_buildM (Mk.mk 0 true pr).rcells.toArray (by rfl) 63 [(1, _), (2, _)] rfl (built_rmk2 _)) ?_; simp only [Act.put, List.setIfInBounds_toArray, List.set_cons_zero, List.set_cons_succ]) | (refine wpTree.take (v := ?_) (Or.inl ⟨by rfl, ?_⟩) ?_; rotate_left; (focus (intro _ hS; (try dsimp only at hS); go_split_ands; (try subst hS); go_simp; (try (with_reducible rfl)); done)); simp only [Act.put, List.setIfInBounds_toArray, List.set_cons_zero, List.set_cons_succ])))
              refine wpTree.one (fun K hK => ?_)
              go_simp
              refine hK.out _ _ hHeld (fun _ => ?_)
              clear hK K
              (try simp only [Act.put, List.setIfInBounds_toArray, List.set_cons_zero, List.set_cons_succ])
              (repeat (first | (refine wpTree.take (v := undef) (Or.inr ⟨by rfl, rfl⟩) ?_; simp only [Act.put, List.setIfInBounds_toArray, List.set_cons_zero, List.set_cons_succ]) | (refine wpTree.take (v := .agg (Mk.rcells ?_).toArray) (yieldsIf_load_mid rfl 63 _ rfl _ _ rfl (Mk.rcells _) _ ?_ Try.underlying63 rfl (rmkinfo _)) ?_; rotate_left; (focus (intro _ hS; refine mrange_next hS ?_; assumption)); simp only [Act.put, List.setIfInBounds_toArray, List.set_cons_zero, List.set_cons_succ]) | (refine wpTree.take (v := .agg (Mk.cells ?_).toArray) (yieldsIf_load_mid rfl 65 _ rfl _ _ rfl (Mk.cells _) _ ?_ Try.underlying65 rfl (mkinfo _)) ?_; rotate_left; (focus (intro _ hS; refine mrange_next hS ?_; assumption)); simp only [Act.put, List.setIfInBounds_toArray, List.set_cons_zero, List.set_cons_succ]) | (refine wpTree.take (yields_buildM (Mk.mk 0 true pr).rcells.toArray (by rfl) 63 [(1, _), (2, _)] rfl (built_rmk2 _)) ?_; simp only [Act.put, List.setIfInBounds_toArray, List.set_cons_zero, List.set_cons_succ]) | (refine wpTree.take (v := ?_) (Or.inl ⟨by rfl, ?_⟩) ?_; rotate_left; (focus (intro _ hS; (try dsimp only at hS); go_split_ands; (try subst hS); go_simp; (try (with_reducible rfl)); done)); simp only [Act.put, List.setIfInBounds_toArray, List.set_cons_zero, List.set_cons_succ])))
              refine wpTree.one (fun K hK => ?_)
              go_simp
              refine hK.out _ _ hHeld (fun _ => ?_)
              clear hK K
              (try simp only [Act.put, List.setIfInBounds_toArray, List.set_cons_zero, List.set_cons_succ])
              (repeat (first | (refine wpTree.take (v := undef) (Or.inr ⟨by rfl, rfl⟩) ?_; simp only [Act.put, List.setIfInBounds_toArray, List.set_cons_zero, List.set_cons_succ]) | (refine wpTree.take (v := .agg (Mk.rcells ?_).toArray) (yieldsIf_load_mid rfl 63 _ rfl _ _ rfl (Mk.rcells _) _ ?_ Try.underlying63 rfl (rmkinfo _)) ?_; rotate_left; (focus (intro _ hS; refine mrange_next hS ?_; assumption)); simp only [Act.put, List.setIfInBounds_toArray, List.set_cons_zero, List.set_cons_succ]) | (refine wpTree.take (v := .agg (Mk.cells ?_).toArray) (yieldsIf_load_mid rfl 65 _ rfl _ _ rfl (Mk.cells _) _ ?_ Try.underlying65 rfl (mkinfo _)) ?_; rotate_left; (focus (intro _ hS; refine mrange_next hS ?_; assumption)); simp only [Act.put, List.setIfInBounds_toArray, List.set_cons_zero, List.set_cons_succ]) | (refine wpTree.take (yields_buildM (Mk.mk 0 true pr).rcells.toArray (by rfl) 63 [(1, _), (2, _)] rfl (built_rmk2 _)) ?_; simp only [Act.put, List.setIfInBounds_toArray, List.set_cons_zero, List.set_cons_succ]) | (refine wpTree.take (v := ?_) (Or.inl ⟨by rfl, ?_⟩) ?_; rotate_left; (focus (intro _ hS; (try dsimp only at hS); go_split_ands; (try subst hS); go_simp; (try (with_reducible rfl)); done)); simp only [Act.put, List.setIfInBounds_toArray, List.set_cons_zero, List.set_cons_succ])))
              refine wpTree.done ?_
              clear ra rb rx ry rw2
              go_wp2_with fail
              go_meet
              exact ⟨by rw [HC.out], hHeld⟩
            | true =>
              cases hrb : rightM b with
              | false =>
                have HC := Lib.hid (show coversM a b = false from by unfold coversM; rw [hra, hrb]; rfl)
                have RRA := rright_any a
                rw [hra] at RRA
                have RRB := rright_any b
                rw [hrb] at RRB
                clear hra hrb
                refine wp_region_tree (S := (fun w => Below x2.heap.size x2 w)) (.take 0 (.one 1 (.take 2 (.take 3 (.one 4 (.take 5 (.take 6 (.take 7 (.take 8 (.take 11 (.one 9 (.one 10 (.take 12 (.take 13 (.take 14 .nil))))))))))))))) 9999 (by kernel_rfl) (by kernel_rfl) (by kernel_rfl) (by kernel_rfl) (by kernel_rfl) (fun _ _ d _ _ h => by cases d <;> exact h) ?_ (fun hHeld => ?_); (focus (exact (Below.refl _ _).drew)); simp only [Tree.map, List.getElem?_toArray, List.getElem?_cons_zero, List.getElem?_cons_succ]
                (repeat (first | (refine wpTree.take (v := undef) (Or.inr ⟨by rfl, rfl⟩) ?_; simp only [Act.put, List.setIfInBounds_toArray, List.set_cons_zero, List.set_cons_succ]) | (refine wpTree.take (v := .agg (Mk.rcells ?_).toArray) (yieldsIf_load_mid rfl 63 _ rfl _ _ rfl (Mk.rcells _) _ ?_ Try.underlying63 rfl (rmkinfo _)) ?_; rotate_left; (focus (intro _ hS; refine mrange_next hS ?_; assumption)); simp only [Act.put, List.setIfInBounds_toArray, List.set_cons_zero, List.set_cons_succ]) | (refine wpTree.take (v := .agg (Mk.cells ?_).toArray) (yieldsIf_load_mid rfl 65 _ rfl _ _ rfl (Mk.cells _) _ ?_ Try.underlying65 rfl (mkinfo _)) ?_; rotate_left; (focus (intro _ hS; refine mrange_next hS ?_; assumption)); simp only [Act.put, List.setIfInBounds_toArray, List.set_cons_zero, List.set_cons_succ]) | (refine wpTree.take (yields_buildM (Mk.mk 0 true pr).rcells.toArray (by rfl) 63 [(1, _), (2, _)] rfl (built_rmk2 _)) ?_; simp only [Act.put, List.setIfInBounds_toArray, List.set_cons_zero, List.set_cons_succ]) | (refine wpTree.take (v := ?_) (Or.inl ⟨by rfl, ?_⟩) ?_; rotate_left; (focus (intro _ hS; (try dsimp only at hS); go_split_ands; (try subst hS); go_simp; (try (with_reducible rfl)); done)); simp only [Act.put, List.setIfInBounds_toArray, List.set_cons_zero, List.set_cons_succ])))
                refine wpTree.one (fun K hK => ?_)
                go_simp
                go_at_call 30
                refine (RRA _).mono ?_
                rintro e z7 ⟨rfl, hb⟩
                have hBelow := Below.trans hHeld (hb.mono (Below.size hHeld))
                refine hK.out _ _ hBelow (fun hHeld' => ?_)
                clear hK K hHeld hBelow hb
                have hHeld := hHeld'
                clear hHeld'
                (try simp only [Act.put, List.setIfInBounds_toArray, List.set_cons_zero, List.set_cons_succ])
                (repeat (first | (refine wpTree.take (v := undef) (Or.inr ⟨by rfl, rfl⟩) ?_; simp only [Act.put, List.setIfInBounds_toArray, List.set_cons_zero, List.set_cons_succ]) | (refine wpTree.take (v := .agg (Mk.rcells ?_).toArray) (yieldsIf_load_mid rfl 63 _ rfl _ _ rfl (Mk.rcells _) _ ?_ Try.underlying63 rfl (rmkinfo _)) ?_; rotate_left; (focus (intro _ hS; refine mrange_next hS ?_; assumption)); simp only [Act.put, List.setIfInBounds_toArray, List.set_cons_zero, List.set_cons_succ]) | (refine wpTree.take (v := .agg (Mk.cells ?_).toArray) (yieldsIf_load_mid rfl 65 _ rfl _ _ rfl (Mk.cells _) _ ?_ Try.underlying65 rfl (mkinfo _)) ?_; rotate_left; (focus (intro _ hS; refine mrange_next hS ?_; assumption)); simp only [Act.put, List.setIfInBounds_toArray, List.set_cons_zero, List.set_cons_succ]) | (refine wpTree.take (yields_buildM (Mk.mk 0 true pr).rcells.toArray (by rfl) 63 [(1, _), (2, _)] rfl (built_rmk2 _)) ?_; simp only [Act.put, List.setIfInBounds_toArray, List.set_cons_zero, List.set_cons_succ]) | (refine wpTree.take (v := ?_) (Or.inl ⟨by rfl, ?_⟩) ?_; rotate_left; (focus (intro _ hS; (try dsimp only at hS); go_split_ands; (try subst hS); go_simp; (try (with_reducible rfl)); done)); simp only [Act.put, List.setIfInBounds_toArray, List.set_cons_zero, List.set_cons_succ])))
                refine wpTree.one (fun K hK => ?_)
                go_simp
                go_at_call 30
                refine (RRB _).mono ?_
                rintro e z8 ⟨rfl, hb⟩
                have hBelow := Below.trans hHeld (hb.mono (Below.size hHeld))
                refine hK.out _ _ hBelow (fun hHeld' => ?_)
                clear hK K hHeld hBelow hb
                have hHeld := hHeld'
                clear hHeld'
                (try simp only [Act.put, List.setIfInBounds_toArray, List.set_cons_zero, List.set_cons_succ])
                (repeat (first | (refine wpTree.take (v := undef) (Or.inr ⟨by rfl, rfl⟩) ?_; simp only [Act.put, List.setIfInBounds_toArray, List.set_cons_zero, List.set_cons_succ]) | (refine wpTree.take (v := .agg (Mk.rcells ?_).toArray) (yieldsIf_load_mid rfl 63 _ rfl _ _ rfl (Mk.rcells _) _ ?_ Try.underlying63 rfl (rmkinfo _)) ?_; rotate_left; (focus (intro _ hS; refine mrange_next hS ?_; assumption)); simp only [Act.put, List.setIfInBounds_toArray, List.set_cons_zero, List.set_cons_succ]) | (refine wpTree.take (v := .agg (Mk.cells ?_).toArray) (yieldsIf_load_mid rfl 65 _ rfl _ _ rfl (Mk.cells _) _ ?_ Try.underlying65 rfl (mkinfo _)) ?_; rotate_left; (focus (intro _ hS; refine mrange_next hS ?_; assumption)); simp only [Act.put, List.setIfInBounds_toArray, List.set_cons_zero, List.set_cons_succ]) | (refine wpTree.take (yields_buildM (Mk.mk 0 true pr).rcells.toArray (by rfl) 63 [(1, _), (2, _)] rfl (built_rmk2 _)) ?_; simp only [Act.put, List.setIfInBounds_toArray, List.set_cons_zero, List.set_cons_succ]) | (refine wpTree.take (v := ?_) (Or.inl ⟨by rfl, ?_⟩) ?_; rotate_left; (focus (intro _ hS; (try dsimp only at hS); go_split_ands; (try subst hS); go_simp; (try (with_reducible rfl)); done)); simp only [Act.put, List.setIfInBounds_toArray, List.set_cons_zero, List.set_cons_succ])))
                refine wpTree.one (fun K hK => ?_)
                go_simp
                refine hK.out _ _ hHeld (fun _ => ?_)
                clear hK K
                (try simp only [Act.put, List.setIfInBounds_toArray, List.set_cons_zero, List.set_cons_succ])
                (repeat (first | (refine wpTree.take (v := undef) (Or.inr ⟨by rfl, rfl⟩) ?_; simp only [Act.put, List.setIfInBounds_toArray, List.set_cons_zero, List.set_cons_succ]) | (refine wpTree.take (v := .agg (Mk.rcells ?_).toArray) (yieldsIf_load_mid rfl 63 _ rfl _ _ rfl (Mk.rcells _) _ ?_ Try.underlying63 rfl (rmkinfo _)) ?_; rotate_left; (focus (intro _ hS; refine mrange_next hS ?_; assumption)); simp only [Act.put, List.setIfInBounds_toArray, List.set_cons_zero, List.set_cons_succ]) | (refine wpTree.take (v := .agg (Mk.cells ?_).toArray) (yieldsIf_load_mid rfl 65 _ rfl _ _ rfl (Mk.cells _) _ ?_ Try.underlying65 rfl (mkinfo _)) ?_; rotate_left; (focus (intro _ hS; refine mrange_next hS ?_; assumption)); simp only [Act.put, List.setIfInBounds_toArray, List.set_cons_zero, List.set_cons_succ]) | (refine wpTree.take (yields_buildM (Mk.mk 0 true pr).rcells.toArray (by rfl) 63 [(1, _), (2, _)] rfl (built_rmk2 _)) ?_; simp only [Act.put, List.setIfInBounds_toArray, List.set_cons_zero, List.set_cons_succ]) | (refine wpTree.take (v := ?_) (Or.inl ⟨by rfl, ?_⟩) ?_; rotate_left; (focus (intro _ hS; (try dsimp only at hS); go_split_ands; (try subst hS); go_simp; (try (with_reducible rfl)); done)); simp only [Act.put, List.setIfInBounds_toArray, List.set_cons_zero, List.set_cons_succ])))
                refine wpTree.one (fun K hK => ?_)
                go_simp
                refine hK.out _ _ hHeld (fun _ => ?_)
                clear hK K
                (try simp only [Act.put, List.setIfInBounds_toArray, List.set_cons_zero, List.set_cons_succ])
                (repeat (first | (refine wpTree.take (v := undef) (Or.inr ⟨by rfl, rfl⟩) ?_; simp only [Act.put, List.setIfInBounds_toArray, List.set_cons_zero, List.set_cons_succ]) | (refine wpTree.take (v := .agg (Mk.rcells ?_).toArray) (yieldsIf_load_mid rfl 63 _ rfl _ _ rfl (Mk.rcells _) _ ?_ Try.underlying63 rfl (rmkinfo _)) ?_; rotate_left; (focus (intro _ hS; refine mrange_next hS ?_; assumption)); simp only [Act.put, List.setIfInBounds_toArray, List.set_cons_zero, List.set_cons_succ]) | (refine wpTree.take (v := .agg (Mk.cells ?_).toArray) (yieldsIf_load_mid rfl 65 _ rfl _ _ rfl (Mk.cells _) _ ?_ Try.underlying65 rfl (mkinfo _)) ?_; rotate_left; (focus (intro _ hS; refine mrange_next hS ?_; assumption)); simp only [Act.put, List.setIfInBounds_toArray, List.set_cons_zero, List.set_cons_succ]) | (refine wpTree.take (yields_buildM (Mk.mk 0 true pr).rcells.toArray (by rfl) 63 [(1, _), (2, _)] rfl (built_rmk2 _)) ?_; simp only [Act.put, List.setIfInBounds_toArray, List.set_cons_zero, List.set_cons_succ]) | (refine wpTree.take (v := ?_) (Or.inl ⟨by rfl, ?_⟩) ?_; rotate_left; (focus (intro _ hS; (try dsimp only at hS); go_split_ands; (try subst hS); go_simp; (try (with_reducible rfl)); done)); simp only [Act.put, List.setIfInBounds_toArray, List.set_cons_zero, List.set_cons_succ])))
                refine wpTree.done ?_
                clear ra rb rx ry rw2
                go_wp2_with fail
                go_meet
                exact ⟨by rw [HC.out], hHeld⟩
              | true =>
                have HC := Lib.hid (show coversM a b = sameM (joinM [a, b]) a from by unfold coversM; rw [hra, hrb]; rfl)
                have RRA := rright_any a
                rw [hra] at RRA
                have RRB := rright_any b
                rw [hrb] at RRB
                have heq := fun w => eq_rm (joinM [a, b]) a w
                have HPAB := Lib.hid (show ∀ m ∈ [a, b], m.p < 18446744073709551616 from fun m hm => by simp only [List.mem_cons, List.not_mem_nil, or_false] at hm; rcases hm with rfl | rfl; exact HPA.out; exact HPB.out)
                clear hra hrb
                refine wp_region_tree (S := (fun w => Below x2.heap.size x2 w)) (.take 0 (.one 1 (.take 2 (.take 3 (.one 4 (.take 5 (.take 6 (.take 7 (.take 8 (.take 11 (.one 9 (.one 10 (.take 12 (.take 13 (.take 14 .nil))))))))))))))) 9999 (by kernel_rfl) (by kernel_rfl) (by kernel_rfl) (by kernel_rfl) (by kernel_rfl) (fun _ _ d _ _ h => by cases d <;> exact h) ?_ (fun hHeld => ?_); (focus (exact (Below.refl _ _).drew)); simp only [Tree.map, List.getElem?_toArray, List.getElem?_cons_zero, List.getElem?_cons_succ]
                (repeat (first | (refine wpTree.take (v := undef) (Or.inr ⟨by rfl, rfl⟩) ?_; simp only [Act.put, List.setIfInBounds_toArray, List.set_cons_zero, List.set_cons_succ]) | (refine wpTree.take (v := .agg (Mk.rcells ?_).toArray) (yieldsIf_load_mid rfl 63 _ rfl _ _ rfl (Mk.rcells _) _ ?_ Try.underlying63 rfl (rmkinfo _)) ?_; rotate_left; (focus (intro _ hS; refine mrange_next hS ?_; assumption)); simp only [Act.put, List.setIfInBounds_toArray, List.set_cons_zero, List.set_cons_succ]) | (refine wpTree.take (v := .agg (Mk.cells ?_).toArray) (yieldsIf_load_mid rfl 65 _ rfl _ _ rfl (Mk.cells _) _ ?_ Try.underlying65 rfl (mkinfo _)) ?_; rotate_left; (focus (intro _ hS; refine mrange_next hS ?_; assumption)); simp only [Act.put, List.setIfInBounds_toArray, List.set_cons_zero, List.set_cons_succ]) | (refine wpTree.take (yields_buildM (Mk.mk 0 true pr).rcells.toArray (by rfl) 63 [(1, _), (2, _)] rfl (built_rmk2 _)) ?_; simp only [Act.put, List.setIfInBounds_toArray, List.set_cons_zero, List.set_cons_succ]) | (refine wpTree.take (v := ?_) (Or.inl ⟨by rfl, ?_⟩) ?_; rotate_left; (focus (intro _ hS; (try dsimp only at hS); go_split_ands; (try subst hS); go_simp; (try (with_reducible rfl)); done)); simp only [Act.put, List.setIfInBounds_toArray, List.set_cons_zero, List.set_cons_succ])))
                refine wpTree.one (fun K hK => ?_)
                go_simp
                go_at_call 30
                refine (RRA _).mono ?_
                rintro e z7 ⟨rfl, hb⟩
                have hBelow := Below.trans hHeld (hb.mono (Below.size hHeld))
                refine hK.out _ _ hBelow (fun hHeld' => ?_)
                clear hK K hHeld hBelow hb
                have hHeld := hHeld'
                clear hHeld'
                (try simp only [Act.put, List.setIfInBounds_toArray, List.set_cons_zero, List.set_cons_succ])
                (repeat (first | (refine wpTree.take (v := undef) (Or.inr ⟨by rfl, rfl⟩) ?_; simp only [Act.put, List.setIfInBounds_toArray, List.set_cons_zero, List.set_cons_succ]) | (refine wpTree.take (v := .agg (Mk.rcells ?_).toArray) (yieldsIf_load_mid rfl 63 _ rfl _ _ rfl (Mk.rcells _) _ ?_ Try.underlying63 rfl (rmkinfo _)) ?_; rotate_left; (focus (intro _ hS; refine mrange_next hS ?_; assumption)); simp only [Act.put, List.setIfInBounds_toArray, List.set_cons_zero, List.set_cons_succ]) | (refine wpTree.take (v := .agg (Mk.cells ?_).toArray) (yieldsIf_load_mid rfl 65 _ rfl _ _ rfl (Mk.cells _) _ ?_ Try.underlying65 rfl (mkinfo _)) ?_; rotate_left; (focus (intro _ hS; refine mrange_next hS ?_; assumption)); simp only [Act.put, List.setIfInBounds_toArray, List.set_cons_zero, List.set_cons_succ]) | (refine wpTree.take (yields_buildM (Mk.mk 0 true pr).rcells.toArray (by rfl) 63 [(1, _), (2, _)] rfl (built_rmk2 _)) ?_; simp only [Act.put, List.setIfInBounds_toArray, List.set_cons_zero, List.set_cons_succ]) | (refine wpTree.take (v := ?_) (Or.inl ⟨by rfl, ?_⟩) ?_; rotate_left; (focus (intro _ hS; (try dsimp only at hS); go_split_ands; (try subst hS); go_simp; (try (with_reducible rfl)); done)); simp only [Act.put, List.setIfInBounds_toArray, List.set_cons_zero, List.set_cons_succ])))
                refine wpTree.one (fun K hK => ?_)
                go_simp
                go_at_call 30
                refine (RRB _).mono ?_
                rintro e z8 ⟨rfl, hb⟩
                have hBelow := Below.trans hHeld (hb.mono (Below.size hHeld))
                refine hK.out _ _ hBelow (fun hHeld' => ?_)
                clear hK K hHeld hBelow hb
                have hHeld := hHeld'
                clear hHeld'
                (try simp only [Act.put, List.setIfInBounds_toArray, List.set_cons_zero, List.set_cons_succ])
                (repeat (first | (refine wpTree.take (v := undef) (Or.inr ⟨by rfl, rfl⟩) ?_; simp only [Act.put, List.setIfInBounds_toArray, List.set_cons_zero, List.set_cons_succ]) | (refine wpTree.take (v := .agg (Mk.rcells ?_).toArray) (yieldsIf_load_mid rfl 63 _ rfl _ _ rfl (Mk.rcells _) _ ?_ Try.underlying63 rfl (rmkinfo _)) ?_; rotate_left; (focus (intro _ hS; refine mrange_next hS ?_; assumption)); simp only [Act.put, List.setIfInBounds_toArray, List.set_cons_zero, List.set_cons_succ]) | (refine wpTree.take (v := .agg (Mk.cells ?_).toArray) (yieldsIf_load_mid rfl 65 _ rfl _ _ rfl (Mk.cells _) _ ?_ Try.underlying65 rfl (mkinfo _)) ?_; rotate_left; (focus (intro _ hS; refine mrange_next hS ?_; assumption)); simp only [Act.put, List.setIfInBounds_toArray, List.set_cons_zero, List.set_cons_succ]) | (refine wpTree.take (yields_buildM (Mk.mk 0 true pr).rcells.toArray (by rfl) 63 [(1, _), (2, _)] rfl (built_rmk2 _)) ?_; simp only [Act.put, List.setIfInBounds_toArray, List.set_cons_zero, List.set_cons_succ]) | (refine wpTree.take (v := ?_) (Or.inl ⟨by rfl, ?_⟩) ?_; rotate_left; (focus (intro _ hS; (try dsimp only at hS); go_split_ands; (try subst hS); go_simp; (try (with_reducible rfl)); done)); simp only [Act.put, List.setIfInBounds_toArray, List.set_cons_zero, List.set_cons_succ])))
                refine wpTree.one (fun K hK => ?_)
                refine rstep_buildMks [a, b] 2 _ (by rfl) rfl rfl (by decide) (by decide) rzmks_2 (by simp [rmkParts]; exact ⟨rfl, rfl⟩) ?_
                refine hK.out _ _ (hHeld.alloc hHeld.size _) (fun hHeld' => ?_)
                have HRM := Lib.hid (rmks_new z8 [a, b])
                clear hK K hHeld
                have hHeld := hHeld'
                clear hHeld'
                obtain ⟨zb, hzb⟩ : ∃ zb, zb = z8.alloc (.cells ([a, b].flatMap Mk.rcells).toArray 63) := ⟨_, rfl⟩
                rw [← hzb] at HRM hHeld ⊢
                clear hzb
                (try simp only [Act.put, List.setIfInBounds_toArray, List.set_cons_zero, List.set_cons_succ])
                (repeat (first | (refine wpTree.take (v := undef) (Or.inr ⟨by rfl, rfl⟩) ?_; simp only [Act.put, List.setIfInBounds_toArray, List.set_cons_zero, List.set_cons_succ]) | (refine wpTree.take (v := .agg (Mk.rcells ?_).toArray) (yieldsIf_load_mid rfl 63 _ rfl _ _ rfl (Mk.rcells _) _ ?_ Try.underlying63 rfl (rmkinfo _)) ?_; rotate_left; (focus (intro _ hS; refine mrange_next hS ?_; assumption)); simp only [Act.put, List.setIfInBounds_toArray, List.set_cons_zero, List.set_cons_succ]) | (refine wpTree.take (v := .agg (Mk.cells ?_).toArray) (yieldsIf_load_mid rfl 65 _ rfl _ _ rfl (Mk.cells _) _ ?_ Try.underlying65 rfl (mkinfo _)) ?_; rotate_left; (focus (intro _ hS; refine mrange_next hS ?_; assumption)); simp only [Act.put, List.setIfInBounds_toArray, List.set_cons_zero, List.set_cons_succ]) | (refine wpTree.take (yields_buildM (Mk.mk 0 true pr).rcells.toArray (by rfl) 63 [(1, _), (2, _)] rfl (built_rmk2 _)) ?_; simp only [Act.put, List.setIfInBounds_toArray, List.set_cons_zero, List.set_cons_succ]) | (refine wpTree.take (v := ?_) (Or.inl ⟨by rfl, ?_⟩) ?_; rotate_left; (focus (intro _ hS; (try dsimp only at hS); go_split_ands; (try subst hS); go_simp; (try (with_reducible rfl)); done)); simp only [Act.put, List.setIfInBounds_toArray, List.set_cons_zero, List.set_cons_succ])))
                refine wpTree.one (fun K hK => ?_)
                go_simp
                go_at_call 31
                refine (rjoin7_any _ 2 2 [a, b] _ rfl (by decide) HRM.out HPAB.out).mono ?_
                rintro e z9 ⟨rfl, hb⟩
                have hBelow := Below.trans hHeld (hb.mono (Below.size hHeld))
                refine hK.out _ _ hBelow (fun hHeld' => ?_)
                clear hK K hHeld hBelow hb
                have hHeld := hHeld'
                clear hHeld'
                (try simp only [Act.put, List.setIfInBounds_toArray, List.set_cons_zero, List.set_cons_succ])
                (repeat (first | (refine wpTree.take (v := undef) (Or.inr ⟨by rfl, rfl⟩) ?_; simp only [Act.put, List.setIfInBounds_toArray, List.set_cons_zero, List.set_cons_succ]) | (refine wpTree.take (v := .agg (Mk.rcells ?_).toArray) (yieldsIf_load_mid rfl 63 _ rfl _ _ rfl (Mk.rcells _) _ ?_ Try.underlying63 rfl (rmkinfo _)) ?_; rotate_left; (focus (intro _ hS; refine mrange_next hS ?_; assumption)); simp only [Act.put, List.setIfInBounds_toArray, List.set_cons_zero, List.set_cons_succ]) | (refine wpTree.take (v := .agg (Mk.cells ?_).toArray) (yieldsIf_load_mid rfl 65 _ rfl _ _ rfl (Mk.cells _) _ ?_ Try.underlying65 rfl (mkinfo _)) ?_; rotate_left; (focus (intro _ hS; refine mrange_next hS ?_; assumption)); simp only [Act.put, List.setIfInBounds_toArray, List.set_cons_zero, List.set_cons_succ]) | (refine wpTree.take (yields_buildM (Mk.mk 0 true pr).rcells.toArray (by rfl) 63 [(1, _), (2, _)] rfl (built_rmk2 _)) ?_; simp only [Act.put, List.setIfInBounds_toArray, List.set_cons_zero, List.set_cons_succ]) | (refine wpTree.take (v := ?_) (Or.inl ⟨by rfl, ?_⟩) ?_; rotate_left; (focus (intro _ hS; (try dsimp only at hS); go_split_ands; (try subst hS); go_simp; (try (with_reducible rfl)); done)); simp only [Act.put, List.setIfInBounds_toArray, List.set_cons_zero, List.set_cons_succ])))
                refine wpTree.done ?_
                clear ra rb rx ry rw2
                go_wp2_with fail
                go_meet
                exact ⟨by rw [HC.out], hHeld⟩
          case rest =>
            obtain ⟨rfl, hbx⟩ := hcut
            rename World => x3
            replace HB := Lib.hid (HB.out.trans (hbx.mono HB.out.size))
            replace HX := Lib.hid (HX.out.next hbx)
            replace HY := Lib.hid (HY.out.next hbx)
            replace HA1 := Lib.hid (HA1.out.next hbx)
            replace HA2 := Lib.hid (HA2.out.next hbx)
            replace HW := Lib.hid (HW.out.next hbx)
            have HVX := Lib.hid (HV.out.next (HB.out))
            clear hbx rx ry ra rb rw2
            have rx := HX.out.range
            have ry := HY.out.range
            have ra := HA1.out.range
            have rb := HA2.out.range
            have rw2 := HW.out.range
            have RRA := rright_any a
            have MRA := mright_any a
            obtain ⟨RA, hRA⟩ : ∃ RA, RA = rightM a := ⟨_, rfl⟩
            rw [← hRA] at RRA MRA
            obtain ⟨CV, hCV⟩ : ∃ CV, CV = coversM a b := ⟨_, rfl⟩
            have MCV := mcovers_any a b HPA.out HPB.out
            rw [← hCV] at MCV ⊢
            have MSM := fun w => msame_any a w b
            have heq1 := fun w => eq_rm (joinM l) (joinM l) w
            have heq2 := fun w => eq_rm a b w
            have heq3 := fun w => eq_rm (flagM fl) (flagM fl) w
            have heq4 := fun w => eq_rm ⟨0, true, pr⟩ ⟨0, true, pr⟩ w
            obtain ⟨SB, hSB⟩ : ∃ SB, SB = sameM a b := ⟨_, rfl⟩
            rw [← hSB] at MSM
            rw [sameM_self] at heq1 heq3 heq4
            simp only [← hSB] at heq2
            clear hSB hCV hRA
            have cb := Tot.call_frombits
            go_upto_region 8 with fail
            refine wp_region_tree (S := (fun w => Below x3.heap.size x3 w)) (.one 0 (.take 1 (.take 2 (.take 6 (.one 3 (.one 4 (.one 5 (.one 7 (.take 8 (.take 9 (.take 10 (.take 11 (.take 13 (.one 12 (.one 14 (.take 15 (.take 16 (.take 17 (.take 18 (.take 19 (.take 21 (.take 22 (.take 23 (.one 20 (.take 24 (.take 25 (.take 26 (.take 27 (.take 30 (.one 28 (.one 29 (.take 31 (.take 32 (.take 33 (.take 34 (.take 38 (.take 39 (.one 35 (.one 36 (.one 37 (.take 40 (.take 41 (.take 42 (.take 43 (.take 44 (.take 46 (.one 45 (.take 47 (.take 48 (.take 49 .nil)))))))))))))))))))))))))))))))))))))))))))))))))) 9999 (by kernel_rfl) (by kernel_rfl) (by kernel_rfl) (by kernel_rfl) (by kernel_rfl) (fun _ _ d _ _ h => by cases d <;> exact h) ?_ (fun hHeld => ?_); (focus (exact (Below.refl _ _).drew)); simp only [Tree.map, List.getElem?_toArray, List.getElem?_cons_zero, List.getElem?_cons_succ]
            (repeat (first | (refine wpTree.take (v := undef) (Or.inr ⟨by rfl, rfl⟩) ?_; simp only [Act.put, List.setIfInBounds_toArray, List.set_cons_zero, List.set_cons_succ]) | (refine wpTree.take (v := .agg (Mk.rcells ?_).toArray) (yieldsIf_load_mid rfl 63 _ rfl _ _ rfl (Mk.rcells _) _ ?_ Try.underlying63 rfl (rmkinfo _)) ?_; rotate_left; (focus (intro _ hS; refine mrange_next hS ?_; assumption)); simp only [Act.put, List.setIfInBounds_toArray, List.set_cons_zero, List.set_cons_succ]) | (refine wpTree.take (v := .agg (Mk.cells ?_).toArray) (yieldsIf_load_mid rfl 65 _ rfl _ _ rfl (Mk.cells _) _ ?_ Try.underlying65 rfl (mkinfo _)) ?_; rotate_left; (focus (intro _ hS; refine mrange_next hS ?_; assumption)); simp only [Act.put, List.setIfInBounds_toArray, List.set_cons_zero, List.set_cons_succ]) | (refine wpTree.take (yields_buildM (Mk.mk 0 true pr).rcells.toArray (by rfl) 63 [(1, _), (2, _)] rfl (built_rmk2 _)) ?_; simp only [Act.put, List.setIfInBounds_toArray, List.set_cons_zero, List.set_cons_succ]) | (refine wpTree.take (v := ?_) (Or.inl ⟨by rfl, ?_⟩) ?_; rotate_left; (focus (intro _ hS; (try dsimp only at hS); go_split_ands; (try subst hS); go_simp; (try (with_reducible rfl)); done)); simp only [Act.put, List.setIfInBounds_toArray, List.set_cons_zero, List.set_cons_succ])))
            refine wpTree.one (fun K hK => ?_)
            go_simp
            go_at_call 28
            refine (alive7_any _).mono ?_
            rintro e z1 ⟨rfl, hb⟩
            have hBelow := Below.trans hHeld (hb.mono (Below.size hHeld))
            refine hK.out _ _ hBelow (fun hHeld' => ?_)
            clear hK K hHeld hBelow hb
            have hHeld := hHeld'
            clear hHeld'
            (try simp only [Act.put, List.setIfInBounds_toArray, List.set_cons_zero, List.set_cons_succ])
            (repeat (first | (refine wpTree.take (v := undef) (Or.inr ⟨by rfl, rfl⟩) ?_; simp only [Act.put, List.setIfInBounds_toArray, List.set_cons_zero, List.set_cons_succ]) | (refine wpTree.take (v := .agg (Mk.rcells ?_).toArray) (yieldsIf_load_mid rfl 63 _ rfl _ _ rfl (Mk.rcells _) _ ?_ Try.underlying63 rfl (rmkinfo _)) ?_; rotate_left; (focus (intro _ hS; refine mrange_next hS ?_; assumption)); simp only [Act.put, List.setIfInBounds_toArray, List.set_cons_zero, List.set_cons_succ]) | (refine wpTree.take (v := .agg (Mk.cells ?_).toArray) (yieldsIf_load_mid rfl 65 _ rfl _ _ rfl (Mk.cells _) _ ?_ Try.underlying65 rfl (mkinfo _)) ?_; rotate_left; (focus (intro _ hS; refine mrange_next hS ?_; assumption)); simp only [Act.put, List.setIfInBounds_toArray, List.set_cons_zero, List.set_cons_succ]) | (refine wpTree.take (yields_buildM (Mk.mk 0 true pr).rcells.toArray (by rfl) 63 [(1, _), (2, _)] rfl (built_rmk2 _)) ?_; simp only [Act.put, List.setIfInBounds_toArray, List.set_cons_zero, List.set_cons_succ]) | (refine wpTree.take (v := ?_) (Or.inl ⟨by rfl, ?_⟩) ?_; rotate_left; (focus (intro _ hS; (try dsimp only at hS); go_split_ands; (try subst hS); go_simp; (try (with_reducible rfl)); done)); simp only [Act.put, List.setIfInBounds_toArray, List.set_cons_zero, List.set_cons_succ])))
            refine wpTree.one (fun K hK => ?_)
            go_simp
            go_at_call 34
            refine (marks_any A n c l _ HN.out (by omega) (HVX.out.next hHeld)).mono ?_
            rintro e z2 ⟨vm, rfl, ho, hb⟩
            obtain ⟨A1, c1, rfl, -, -, hm⟩ := ho.mks
            have HM1 := Lib.hid hm
            have hBelow := Below.trans hHeld (hb.mono (Below.size hHeld))
            refine hK.out _ _ hBelow (fun hHeld' => ?_)
            clear hK K hHeld hBelow hb ho hm
            have hHeld := hHeld'
            clear hHeld'
            (try simp only [Act.put, List.setIfInBounds_toArray, List.set_cons_zero, List.set_cons_succ])
            (repeat (first | (refine wpTree.take (v := undef) (Or.inr ⟨by rfl, rfl⟩) ?_; simp only [Act.put, List.setIfInBounds_toArray, List.set_cons_zero, List.set_cons_succ]) | (refine wpTree.take (v := .agg (Mk.rcells ?_).toArray) (yieldsIf_load_mid rfl 63 _ rfl _ _ rfl (Mk.rcells _) _ ?_ Try.underlying63 rfl (rmkinfo _)) ?_; rotate_left; (focus (intro _ hS; refine mrange_next hS ?_; assumption)); simp only [Act.put, List.setIfInBounds_toArray, List.set_cons_zero, List.set_cons_succ]) | (refine wpTree.take (v := .agg (Mk.cells ?_).toArray) (yieldsIf_load_mid rfl 65 _ rfl _ _ rfl (Mk.cells _) _ ?_ Try.underlying65 rfl (mkinfo _)) ?_; rotate_left; (focus (intro _ hS; refine mrange_next hS ?_; assumption)); simp only [Act.put, List.setIfInBounds_toArray, List.set_cons_zero, List.set_cons_succ]) | (refine wpTree.take (yields_buildM (Mk.mk 0 true pr).rcells.toArray (by rfl) 63 [(1, _), (2, _)] rfl (built_rmk2 _)) ?_; simp only [Act.put, List.setIfInBounds_toArray, List.set_cons_zero, List.set_cons_succ]) | (refine wpTree.take (v := ?_) (Or.inl ⟨by rfl, ?_⟩) ?_; rotate_left; (focus (intro _ hS; (try dsimp only at hS); go_split_ands; (try subst hS); go_simp; (try (with_reducible rfl)); done)); simp only [Act.put, List.setIfInBounds_toArray, List.set_cons_zero, List.set_cons_succ])))
            refine wpTree.one (fun K hK => ?_)
            go_simp
            go_at_call 33
            refine (mjoin_any A1 n c1 l _ HN.out hlen HM1.out HP.out).mono ?_
            rintro e z3 ⟨rfl, hb⟩
            have hBelow := Below.trans hHeld (hb.mono (Below.size hHeld))
            refine hK.out _ _ hBelow (fun hHeld' => ?_)
            clear hK K hHeld hBelow hb
            have hHeld := hHeld'
            clear hHeld'
            (try simp only [Act.put, List.setIfInBounds_toArray, List.set_cons_zero, List.set_cons_succ])
            (repeat (first | (refine wpTree.take (v := undef) (Or.inr ⟨by rfl, rfl⟩) ?_; simp only [Act.put, List.setIfInBounds_toArray, List.set_cons_zero, List.set_cons_succ]) | (refine wpTree.take (v := .agg (Mk.rcells ?_).toArray) (yieldsIf_load_mid rfl 63 _ rfl _ _ rfl (Mk.rcells _) _ ?_ Try.underlying63 rfl (rmkinfo _)) ?_; rotate_left; (focus (intro _ hS; refine mrange_next hS ?_; assumption)); simp only [Act.put, List.setIfInBounds_toArray, List.set_cons_zero, List.set_cons_succ]) | (refine wpTree.take (v := .agg (Mk.cells ?_).toArray) (yieldsIf_load_mid rfl 65 _ rfl _ _ rfl (Mk.cells _) _ ?_ Try.underlying65 rfl (mkinfo _)) ?_; rotate_left; (focus (intro _ hS; refine mrange_next hS ?_; assumption)); simp only [Act.put, List.setIfInBounds_toArray, List.set_cons_zero, List.set_cons_succ]) | (refine wpTree.take (yields_buildM (Mk.mk 0 true pr).rcells.toArray (by rfl) 63 [(1, _), (2, _)] rfl (built_rmk2 _)) ?_; simp only [Act.put, List.setIfInBounds_toArray, List.set_cons_zero, List.set_cons_succ]) | (refine wpTree.take (v := ?_) (Or.inl ⟨by rfl, ?_⟩) ?_; rotate_left; (focus (intro _ hS; (try dsimp only at hS); go_split_ands; (try subst hS); go_simp; (try (with_reducible rfl)); done)); simp only [Act.put, List.setIfInBounds_toArray, List.set_cons_zero, List.set_cons_succ])))
            refine wpTree.one (fun K hK => ?_)
            go_simp
            go_at_call 32
            refine (mas_any (joinM l) _).mono ?_
            rintro e z4 ⟨rfl, hb⟩
            have hBelow := Below.trans hHeld (hb.mono (Below.size hHeld))
            refine hK.out _ _ hBelow (fun hHeld' => ?_)
            clear hK K hHeld hBelow hb
            have hHeld := hHeld'
            clear hHeld'
            (try simp only [Act.put, List.setIfInBounds_toArray, List.set_cons_zero, List.set_cons_succ])
            (repeat (first | (refine wpTree.take (v := undef) (Or.inr ⟨by rfl, rfl⟩) ?_; simp only [Act.put, List.setIfInBounds_toArray, List.set_cons_zero, List.set_cons_succ]) | (refine wpTree.take (v := .agg (Mk.rcells ?_).toArray) (yieldsIf_load_mid rfl 63 _ rfl _ _ rfl (Mk.rcells _) _ ?_ Try.underlying63 rfl (rmkinfo _)) ?_; rotate_left; (focus (intro _ hS; refine mrange_next hS ?_; assumption)); simp only [Act.put, List.setIfInBounds_toArray, List.set_cons_zero, List.set_cons_succ]) | (refine wpTree.take (v := .agg (Mk.cells ?_).toArray) (yieldsIf_load_mid rfl 65 _ rfl _ _ rfl (Mk.cells _) _ ?_ Try.underlying65 rfl (mkinfo _)) ?_; rotate_left; (focus (intro _ hS; refine mrange_next hS ?_; assumption)); simp only [Act.put, List.setIfInBounds_toArray, List.set_cons_zero, List.set_cons_succ]) | (refine wpTree.take (yields_buildM (Mk.mk 0 true pr).rcells.toArray (by rfl) 63 [(1, _), (2, _)] rfl (built_rmk2 _)) ?_; simp only [Act.put, List.setIfInBounds_toArray, List.set_cons_zero, List.set_cons_succ]) | (refine wpTree.take (v := ?_) (Or.inl ⟨by rfl, ?_⟩) ?_; rotate_left; (focus (intro _ hS; (try dsimp only at hS); go_split_ands; (try subst hS); go_simp; (try (with_reducible rfl)); done)); simp only [Act.put, List.setIfInBounds_toArray, List.set_cons_zero, List.set_cons_succ])))
            refine wpTree.one (fun K hK => ?_)
            go_simp
            go_at_call 31
            refine (rjoin7_any A n c l _ HN.out hlen (HVX.out.next hHeld) HP.out).mono ?_
            rintro e z5 ⟨rfl, hb⟩
            have hBelow := Below.trans hHeld (hb.mono (Below.size hHeld))
            refine hK.out _ _ hBelow (fun hHeld' => ?_)
            clear hK K hHeld hBelow hb
            have hHeld := hHeld'
            clear hHeld'
            (try simp only [Act.put, List.setIfInBounds_toArray, List.set_cons_zero, List.set_cons_succ])
            (repeat (first | (refine wpTree.take (v := undef) (Or.inr ⟨by rfl, rfl⟩) ?_; simp only [Act.put, List.setIfInBounds_toArray, List.set_cons_zero, List.set_cons_succ]) | (refine wpTree.take (v := .agg (Mk.rcells ?_).toArray) (yieldsIf_load_mid rfl 63 _ rfl _ _ rfl (Mk.rcells _) _ ?_ Try.underlying63 rfl (rmkinfo _)) ?_; rotate_left; (focus (intro _ hS; refine mrange_next hS ?_; assumption)); simp only [Act.put, List.setIfInBounds_toArray, List.set_cons_zero, List.set_cons_succ]) | (refine wpTree.take (v := .agg (Mk.cells ?_).toArray) (yieldsIf_load_mid rfl 65 _ rfl _ _ rfl (Mk.cells _) _ ?_ Try.underlying65 rfl (mkinfo _)) ?_; rotate_left; (focus (intro _ hS; refine mrange_next hS ?_; assumption)); simp only [Act.put, List.setIfInBounds_toArray, List.set_cons_zero, List.set_cons_succ]) | (refine wpTree.take (yields_buildM (Mk.mk 0 true pr).rcells.toArray (by rfl) 63 [(1, _), (2, _)] rfl (built_rmk2 _)) ?_; simp only [Act.put, List.setIfInBounds_toArray, List.set_cons_zero, List.set_cons_succ]) | (refine wpTree.take (v := ?_) (Or.inl ⟨by rfl, ?_⟩) ?_; rotate_left; (focus (intro _ hS; (try dsimp only at hS); go_split_ands; (try subst hS); go_simp; (try (with_reducible rfl)); done)); simp only [Act.put, List.setIfInBounds_toArray, List.set_cons_zero, List.set_cons_succ])))
            refine wpTree.one (fun K hK => ?_)
            go_simp
            go_at_call 35
            refine (MRA _).mono ?_
            rintro e z6 ⟨rfl, hb⟩
            have hBelow := Below.trans hHeld (hb.mono (Below.size hHeld))
            refine hK.out _ _ hBelow (fun hHeld' => ?_)
            clear hK K hHeld hBelow hb
            have hHeld := hHeld'
            clear hHeld'
            (try simp only [Act.put, List.setIfInBounds_toArray, List.set_cons_zero, List.set_cons_succ])
            (repeat (first | (refine wpTree.take (v := undef) (Or.inr ⟨by rfl, rfl⟩) ?_; simp only [Act.put, List.setIfInBounds_toArray, List.set_cons_zero, List.set_cons_succ]) | (refine wpTree.take (v := .agg (Mk.rcells ?_).toArray) (yieldsIf_load_mid rfl 63 _ rfl _ _ rfl (Mk.rcells _) _ ?_ Try.underlying63 rfl (rmkinfo _)) ?_; rotate_left; (focus (intro _ hS; refine mrange_next hS ?_; assumption)); simp only [Act.put, List.setIfInBounds_toArray, List.set_cons_zero, List.set_cons_succ]) | (refine wpTree.take (v := .agg (Mk.cells ?_).toArray) (yieldsIf_load_mid rfl 65 _ rfl _ _ rfl (Mk.cells _) _ ?_ Try.underlying65 rfl (mkinfo _)) ?_; rotate_left; (focus (intro _ hS; refine mrange_next hS ?_; assumption)); simp only [Act.put, List.setIfInBounds_toArray, List.set_cons_zero, List.set_cons_succ]) | (refine wpTree.take (yields_buildM (Mk.mk 0 true pr).rcells.toArray (by rfl) 63 [(1, _), (2, _)] rfl (built_rmk2 _)) ?_; simp only [Act.put, List.setIfInBounds_toArray, List.set_cons_zero, List.set_cons_succ]) | (refine wpTree.take (v := ?_) (Or.inl ⟨by rfl, ?_⟩) ?_; rotate_left; (focus (intro _ hS; (try dsimp only at hS); go_split_ands; (try subst hS); go_simp; (try (with_reducible rfl)); done)); simp only [Act.put, List.setIfInBounds_toArray, List.set_cons_zero, List.set_cons_succ])))
            refine wpTree.one (fun K hK => ?_)
            go_simp
            go_at_call 30
            refine (RRA _).mono ?_
            rintro e z7 ⟨rfl, hb⟩
            have hBelow := Below.trans hHeld (hb.mono (Below.size hHeld))
            refine hK.out _ _ hBelow (fun hHeld' => ?_)
            clear hK K hHeld hBelow hb
            have hHeld := hHeld'
            clear hHeld'
            (try simp only [Act.put, List.setIfInBounds_toArray, List.set_cons_zero, List.set_cons_succ])
            (repeat (first | (refine wpTree.take (v := undef) (Or.inr ⟨by rfl, rfl⟩) ?_; simp only [Act.put, List.setIfInBounds_toArray, List.set_cons_zero, List.set_cons_succ]) | (refine wpTree.take (v := .agg (Mk.rcells ?_).toArray) (yieldsIf_load_mid rfl 63 _ rfl _ _ rfl (Mk.rcells _) _ ?_ Try.underlying63 rfl (rmkinfo _)) ?_; rotate_left; (focus (intro _ hS; refine mrange_next hS ?_; assumption)); simp only [Act.put, List.setIfInBounds_toArray, List.set_cons_zero, List.set_cons_succ]) | (refine wpTree.take (v := .agg (Mk.cells ?_).toArray) (yieldsIf_load_mid rfl 65 _ rfl _ _ rfl (Mk.cells _) _ ?_ Try.underlying65 rfl (mkinfo _)) ?_; rotate_left; (focus (intro _ hS; refine mrange_next hS ?_; assumption)); simp only [Act.put, List.setIfInBounds_toArray, List.set_cons_zero, List.set_cons_succ]) | (refine wpTree.take (yields_buildM (Mk.mk 0 true pr).rcells.toArray (by rfl) 63 [(1, _), (2, _)] rfl (built_rmk2 _)) ?_; simp only [Act.put, List.setIfInBounds_toArray, List.set_cons_zero, List.set_cons_succ]) | (refine wpTree.take (v := ?_) (Or.inl ⟨by rfl, ?_⟩) ?_; rotate_left; (focus (intro _ hS; (try dsimp only at hS); go_split_ands; (try subst hS); go_simp; (try (with_reducible rfl)); done)); simp only [Act.put, List.setIfInBounds_toArray, List.set_cons_zero, List.set_cons_succ])))
            refine wpTree.one (fun K hK => ?_)
            go_simp
            go_at_call 36
            refine (MSM _).mono ?_
            rintro e z8 ⟨rfl, hb⟩
            have hBelow := Below.trans hHeld (hb.mono (Below.size hHeld))
            refine hK.out _ _ hBelow (fun hHeld' => ?_)
            clear hK K hHeld hBelow hb
            have hHeld := hHeld'
            clear hHeld'
            (try simp only [Act.put, List.setIfInBounds_toArray, List.set_cons_zero, List.set_cons_succ])
            (repeat (first | (refine wpTree.take (v := undef) (Or.inr ⟨by rfl, rfl⟩) ?_; simp only [Act.put, List.setIfInBounds_toArray, List.set_cons_zero, List.set_cons_succ]) | (refine wpTree.take (v := .agg (Mk.rcells ?_).toArray) (yieldsIf_load_mid rfl 63 _ rfl _ _ rfl (Mk.rcells _) _ ?_ Try.underlying63 rfl (rmkinfo _)) ?_; rotate_left; (focus (intro _ hS; refine mrange_next hS ?_; assumption)); simp only [Act.put, List.setIfInBounds_toArray, List.set_cons_zero, List.set_cons_succ]) | (refine wpTree.take (v := .agg (Mk.cells ?_).toArray) (yieldsIf_load_mid rfl 65 _ rfl _ _ rfl (Mk.cells _) _ ?_ Try.underlying65 rfl (mkinfo _)) ?_; rotate_left; (focus (intro _ hS; refine mrange_next hS ?_; assumption)); simp only [Act.put, List.setIfInBounds_toArray, List.set_cons_zero, List.set_cons_succ]) | (refine wpTree.take (yields_buildM (Mk.mk 0 true pr).rcells.toArray (by rfl) 63 [(1, _), (2, _)] rfl (built_rmk2 _)) ?_; simp only [Act.put, List.setIfInBounds_toArray, List.set_cons_zero, List.set_cons_succ]) | (refine wpTree.take (v := ?_) (Or.inl ⟨by rfl, ?_⟩) ?_; rotate_left; (focus (intro _ hS; (try dsimp only at hS); go_split_ands; (try subst hS); go_simp; (try (with_reducible rfl)); done)); simp only [Act.put, List.setIfInBounds_toArray, List.set_cons_zero, List.set_cons_succ])))
            refine wpTree.one (fun K hK => ?_)
            go_simp
            go_at_call 37
            refine (flag_any fl _).mono ?_
            rintro e z9 ⟨rfl, hb⟩
            have hBelow := Below.trans hHeld (hb.mono (Below.size hHeld))
            refine hK.out _ _ hBelow (fun hHeld' => ?_)
            clear hK K hHeld hBelow hb
            have hHeld := hHeld'
            clear hHeld'
            (try simp only [Act.put, List.setIfInBounds_toArray, List.set_cons_zero, List.set_cons_succ])
            (repeat (first | (refine wpTree.take (v := undef) (Or.inr ⟨by rfl, rfl⟩) ?_; simp only [Act.put, List.setIfInBounds_toArray, List.set_cons_zero, List.set_cons_succ]) | (refine wpTree.take (v := .agg (Mk.rcells ?_).toArray) (yieldsIf_load_mid rfl 63 _ rfl _ _ rfl (Mk.rcells _) _ ?_ Try.underlying63 rfl (rmkinfo _)) ?_; rotate_left; (focus (intro _ hS; refine mrange_next hS ?_; assumption)); simp only [Act.put, List.setIfInBounds_toArray, List.set_cons_zero, List.set_cons_succ]) | (refine wpTree.take (v := .agg (Mk.cells ?_).toArray) (yieldsIf_load_mid rfl 65 _ rfl _ _ rfl (Mk.cells _) _ ?_ Try.underlying65 rfl (mkinfo _)) ?_; rotate_left; (focus (intro _ hS; refine mrange_next hS ?_; assumption)); simp only [Act.put, List.setIfInBounds_toArray, List.set_cons_zero, List.set_cons_succ]) | (refine wpTree.take (yields_buildM (Mk.mk 0 true pr).rcells.toArray (by rfl) 63 [(1, _), (2, _)] rfl (built_rmk2 _)) ?_; simp only [Act.put, List.setIfInBounds_toArray, List.set_cons_zero, List.set_cons_succ]) | (refine wpTree.take (v := ?_) (Or.inl ⟨by rfl, ?_⟩) ?_; rotate_left; (focus (intro _ hS; (try dsimp only at hS); go_split_ands; (try subst hS); go_simp; (try (with_reducible rfl)); done)); simp only [Act.put, List.setIfInBounds_toArray, List.set_cons_zero, List.set_cons_succ])))
            refine wpTree.one (fun K hK => ?_)
            go_simp
            go_at_call 32
            refine (mas_any (flagM fl) _).mono ?_
            rintro e z10 ⟨rfl, hb⟩
            have hBelow := Below.trans hHeld (hb.mono (Below.size hHeld))
            refine hK.out _ _ hBelow (fun hHeld' => ?_)
            clear hK K hHeld hBelow hb
            have hHeld := hHeld'
            clear hHeld'
            (try simp only [Act.put, List.setIfInBounds_toArray, List.set_cons_zero, List.set_cons_succ])
            (repeat (first | (refine wpTree.take (v := undef) (Or.inr ⟨by rfl, rfl⟩) ?_; simp only [Act.put, List.setIfInBounds_toArray, List.set_cons_zero, List.set_cons_succ]) | (refine wpTree.take (v := .agg (Mk.rcells ?_).toArray) (yieldsIf_load_mid rfl 63 _ rfl _ _ rfl (Mk.rcells _) _ ?_ Try.underlying63 rfl (rmkinfo _)) ?_; rotate_left; (focus (intro _ hS; refine mrange_next hS ?_; assumption)); simp only [Act.put, List.setIfInBounds_toArray, List.set_cons_zero, List.set_cons_succ]) | (refine wpTree.take (v := .agg (Mk.cells ?_).toArray) (yieldsIf_load_mid rfl 65 _ rfl _ _ rfl (Mk.cells _) _ ?_ Try.underlying65 rfl (mkinfo _)) ?_; rotate_left; (focus (intro _ hS; refine mrange_next hS ?_; assumption)); simp only [Act.put, List.setIfInBounds_toArray, List.set_cons_zero, List.set_cons_succ]) | (refine wpTree.take (yields_buildM (Mk.mk 0 true pr).rcells.toArray (by rfl) 63 [(1, _), (2, _)] rfl (built_rmk2 _)) ?_; simp only [Act.put, List.setIfInBounds_toArray, List.set_cons_zero, List.set_cons_succ]) | (refine wpTree.take (v := ?_) (Or.inl ⟨by rfl, ?_⟩) ?_; rotate_left; (focus (intro _ hS; (try dsimp only at hS); go_split_ands; (try subst hS); go_simp; (try (with_reducible rfl)); done)); simp only [Act.put, List.setIfInBounds_toArray, List.set_cons_zero, List.set_cons_succ])))
            refine wpTree.one (fun K hK => ?_)
            go_simp
            refine hK.out _ _ hHeld (fun _ => ?_)
            clear hK K
            (try simp only [Act.put, List.setIfInBounds_toArray, List.set_cons_zero, List.set_cons_succ])
            (repeat (first | (refine wpTree.take (v := undef) (Or.inr ⟨by rfl, rfl⟩) ?_; simp only [Act.put, List.setIfInBounds_toArray, List.set_cons_zero, List.set_cons_succ]) | (refine wpTree.take (v := .agg (Mk.rcells ?_).toArray) (yieldsIf_load_mid rfl 63 _ rfl _ _ rfl (Mk.rcells _) _ ?_ Try.underlying63 rfl (rmkinfo _)) ?_; rotate_left; (focus (intro _ hS; refine mrange_next hS ?_; assumption)); simp only [Act.put, List.setIfInBounds_toArray, List.set_cons_zero, List.set_cons_succ]) | (refine wpTree.take (v := .agg (Mk.cells ?_).toArray) (yieldsIf_load_mid rfl 65 _ rfl _ _ rfl (Mk.cells _) _ ?_ Try.underlying65 rfl (mkinfo _)) ?_; rotate_left; (focus (intro _ hS; refine mrange_next hS ?_; assumption)); simp only [Act.put, List.setIfInBounds_toArray, List.set_cons_zero, List.set_cons_succ]) | (refine wpTree.take (yields_buildM (Mk.mk 0 true pr).rcells.toArray (by rfl) 63 [(1, _), (2, _)] rfl (built_rmk2 _)) ?_; simp only [Act.put, List.setIfInBounds_toArray, List.set_cons_zero, List.set_cons_succ]) | (refine wpTree.take (v := ?_) (Or.inl ⟨by rfl, ?_⟩) ?_; rotate_left; (focus (intro _ hS; (try dsimp only at hS); go_split_ands; (try subst hS); go_simp; (try (with_reducible rfl)); done)); simp only [Act.put, List.setIfInBounds_toArray, List.set_cons_zero, List.set_cons_succ])))
            refine wpTree.one (fun K hK => ?_)
            go_simp
            go_at_call 38
            refine (price_any _ pr).mono ?_
            rintro e z11 ⟨rfl, hb⟩
            have hBelow := Below.trans hHeld (hb.mono (Below.size hHeld))
            refine hK.out _ _ hBelow (fun hHeld' => ?_)
            clear hK K hHeld hBelow hb
            have hHeld := hHeld'
            clear hHeld'
            (try simp only [Act.put, List.setIfInBounds_toArray, List.set_cons_zero, List.set_cons_succ])
            (repeat (first | (refine wpTree.take (v := undef) (Or.inr ⟨by rfl, rfl⟩) ?_; simp only [Act.put, List.setIfInBounds_toArray, List.set_cons_zero, List.set_cons_succ]) | (refine wpTree.take (v := .agg (Mk.rcells ?_).toArray) (yieldsIf_load_mid rfl 63 _ rfl _ _ rfl (Mk.rcells _) _ ?_ Try.underlying63 rfl (rmkinfo _)) ?_; rotate_left; (focus (intro _ hS; refine mrange_next hS ?_; assumption)); simp only [Act.put, List.setIfInBounds_toArray, List.set_cons_zero, List.set_cons_succ]) | (refine wpTree.take (v := .agg (Mk.cells ?_).toArray) (yieldsIf_load_mid rfl 65 _ rfl _ _ rfl (Mk.cells _) _ ?_ Try.underlying65 rfl (mkinfo _)) ?_; rotate_left; (focus (intro _ hS; refine mrange_next hS ?_; assumption)); simp only [Act.put, List.setIfInBounds_toArray, List.set_cons_zero, List.set_cons_succ]) | (refine wpTree.take (yields_buildM (Mk.mk 0 true pr).rcells.toArray (by rfl) 63 [(1, _), (2, _)] rfl (built_rmk2 _)) ?_; simp only [Act.put, List.setIfInBounds_toArray, List.set_cons_zero, List.set_cons_succ]) | (refine wpTree.take (v := ?_) (Or.inl ⟨by rfl, ?_⟩) ?_; rotate_left; (focus (intro _ hS; (try dsimp only at hS); go_split_ands; (try subst hS); go_simp; (try (with_reducible rfl)); done)); simp only [Act.put, List.setIfInBounds_toArray, List.set_cons_zero, List.set_cons_succ])))
            refine wpTree.one (fun K hK => ?_)
            go_simp
            go_at_call 32
            refine (mas_any ⟨0, true, pr⟩ _).mono ?_
            rintro e z12 ⟨rfl, hb⟩
            have hBelow := Below.trans hHeld (hb.mono (Below.size hHeld))
            refine hK.out _ _ hBelow (fun hHeld' => ?_)
            clear hK K hHeld hBelow hb
            have hHeld := hHeld'
            clear hHeld'
            (try simp only [Act.put, List.setIfInBounds_toArray, List.set_cons_zero, List.set_cons_succ])
            (repeat (first | (refine wpTree.take (v := undef) (Or.inr ⟨by rfl, rfl⟩) ?_; simp only [Act.put, List.setIfInBounds_toArray, List.set_cons_zero, List.set_cons_succ]) | (refine wpTree.take (v := .agg (Mk.rcells ?_).toArray) (yieldsIf_load_mid rfl 63 _ rfl _ _ rfl (Mk.rcells _) _ ?_ Try.underlying63 rfl (rmkinfo _)) ?_; rotate_left; (focus (intro _ hS; refine mrange_next hS ?_; assumption)); simp only [Act.put, List.setIfInBounds_toArray, List.set_cons_zero, List.set_cons_succ]) | (refine wpTree.take (v := .agg (Mk.cells ?_).toArray) (yieldsIf_load_mid rfl 65 _ rfl _ _ rfl (Mk.cells _) _ ?_ Try.underlying65 rfl (mkinfo _)) ?_; rotate_left; (focus (intro _ hS; refine mrange_next hS ?_; assumption)); simp only [Act.put, List.setIfInBounds_toArray, List.set_cons_zero, List.set_cons_succ]) | (refine wpTree.take (yields_buildM (Mk.mk 0 true pr).rcells.toArray (by rfl) 63 [(1, _), (2, _)] rfl (built_rmk2 _)) ?_; simp only [Act.put, List.setIfInBounds_toArray, List.set_cons_zero, List.set_cons_succ]) | (refine wpTree.take (v := ?_) (Or.inl ⟨by rfl, ?_⟩) ?_; rotate_left; (focus (intro _ hS; (try dsimp only at hS); go_split_ands; (try subst hS); go_simp; (try (with_reducible rfl)); done)); simp only [Act.put, List.setIfInBounds_toArray, List.set_cons_zero, List.set_cons_succ])))
            refine wpTree.one (fun K hK => ?_)
            go_simp
            go_at_call 40
            refine (MCV _).mono ?_
            rintro e z13 ⟨rfl, hb⟩
            have hBelow := Below.trans hHeld (hb.mono (Below.size hHeld))
            refine hK.out _ _ hBelow (fun hHeld' => ?_)
            clear hK K hHeld hBelow hb
            have hHeld := hHeld'
            clear hHeld'
            (try simp only [Act.put, List.setIfInBounds_toArray, List.set_cons_zero, List.set_cons_succ])
            (repeat (first | (refine wpTree.take (v := undef) (Or.inr ⟨by rfl, rfl⟩) ?_; simp only [Act.put, List.setIfInBounds_toArray, List.set_cons_zero, List.set_cons_succ]) | (refine wpTree.take (v := .agg (Mk.rcells ?_).toArray) (yieldsIf_load_mid rfl 63 _ rfl _ _ rfl (Mk.rcells _) _ ?_ Try.underlying63 rfl (rmkinfo _)) ?_; rotate_left; (focus (intro _ hS; refine mrange_next hS ?_; assumption)); simp only [Act.put, List.setIfInBounds_toArray, List.set_cons_zero, List.set_cons_succ]) | (refine wpTree.take (v := .agg (Mk.cells ?_).toArray) (yieldsIf_load_mid rfl 65 _ rfl _ _ rfl (Mk.cells _) _ ?_ Try.underlying65 rfl (mkinfo _)) ?_; rotate_left; (focus (intro _ hS; refine mrange_next hS ?_; assumption)); simp only [Act.put, List.setIfInBounds_toArray, List.set_cons_zero, List.set_cons_succ]) | (refine wpTree.take (yields_buildM (Mk.mk 0 true pr).rcells.toArray (by rfl) 63 [(1, _), (2, _)] rfl (built_rmk2 _)) ?_; simp only [Act.put, List.setIfInBounds_toArray, List.set_cons_zero, List.set_cons_succ]) | (refine wpTree.take (v := ?_) (Or.inl ⟨by rfl, ?_⟩) ?_; rotate_left; (focus (intro _ hS; (try dsimp only at hS); go_split_ands; (try subst hS); go_simp; (try (with_reducible rfl)); done)); simp only [Act.put, List.setIfInBounds_toArray, List.set_cons_zero, List.set_cons_succ])))
            refine wpTree.done ?_
            clear ra rb rx ry rw2
            go_wp2_with fail
            go_ret
            exact ⟨rfl, HB.out.trans (hHeld.mono HB.out.size)⟩
  · have h1 : (100 : Int) < (n : Nat) := by omega
    go_wp2_with fail
    refine (alive7_any w0).mono ?_
    rintro e w1 ⟨rfl, hb⟩
    have HB1 := Lib.hid (HB.out.trans (hb.mono HB.out.size))
    clear hb
    go_wp2_with fail
    go_ret
    exact ⟨rfl, HB1.out⟩
end Go.Proofs.Ytlejnjgepnjceaa

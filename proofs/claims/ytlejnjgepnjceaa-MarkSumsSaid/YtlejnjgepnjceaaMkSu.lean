/-
MarkSums walked: the total of any rows is told, to the last bit of its Sum.
-/
import Derived.Test.YtlejnjgepnjceaaMkRS
import Derived.Test.YtlejnjgepnjceaaMkOpen
import Derived.Test.YtlejnjgepnjceaaMk5
namespace Go.Proofs.Ytlejnjgepnjceaa
open Go.RowKit
set_option linter.unusedSimpArgs false
set_option linter.unusedVariables false
attribute [local go_sem] Tot.run_store_float

set_option maxRecDepth 20000 in
set_option maxHeartbeats 16000000 in
theorem sums_walk (A B : Option Addr) (n m c d : Nat) (qs : List Int) (ms : List Mk) (a b : Tt) (W : World) (hn : qs.length = n) (hm : ms.length = m) (hnl : n ≤ 9223372036854775807) (hml : m ≤ 9223372036854775807) (hq : Qs W A qs) (hM : RMks W B ms) (hp : ∀ x ∈ ms, x.p < 18446744073709551616) :
    Calls Try.prog 5 #[.slice A n c, .slice B m d, .agg a.rcells.toArray, .agg b.rcells.toArray] W fun e W' => e = .returned (.bool true) ∧ Below W.heap.size W W' := by
  have HN := Lib.hid hn
  have HM := Lib.hid hm
  have HQ := Lib.hid hq
  have HV := Lib.hid hM
  have HP := Lib.hid hp
  have hsz : (W.alloc (.cells a.rcells.toArray 81)).heap.size = W.heap.size + 1 := by simp
  have bA := (Blk.new W 81 a.rcells.toArray).alloc (.cells b.rcells.toArray 81)
  have bB := Blk.new (W.alloc (.cells a.rcells.toArray 81)) 81 b.rcells.toArray
  rw [hsz] at bB
  have hB0 := ((Below.refl W.heap.size W).alloc (Nat.le_refl _) (.cells a.rcells.toArray 81)).alloc (by rw [hsz]; omega) (.cells b.rcells.toArray 81)
  clear hn hm hq hM hp hsz
  have cb := Tot.call_frombits
  go_enter Try.func5, Try.ntmps5
  go_upto_region 1 with fail
  obtain ⟨w0, hw0⟩ : ∃ w0, w0 = (W.alloc (.cells a.rcells.toArray 81)).alloc (.cells b.rcells.toArray 81) := ⟨_, rfl⟩
  rw [← hw0] at bA bB hB0 ⊢
  have HB := Lib.hid hB0
  have HAa := Lib.hid bA
  have HAb := Lib.hid bB
  have HLa := Lib.hid (show W.heap.size < w0.heap.size from bA.lt)
  clear hw0 bA bB hB0
  rcases (show ((200 : Int) < (n : Nat) ∨ (¬ (200 : Int) < (n : Nat) ∧ (200 : Int) < (m : Nat))) ∨ (¬ (200 : Int) < (n : Nat) ∧ ¬ (200 : Int) < (m : Nat)) by omega) with hbig | ⟨h1, h2⟩
  · rcases hbig with h1 | ⟨h1, h2⟩
    all_goals
      go_wp2_with fail
      refine (alive7_any w0).mono ?_
      rintro e w1 ⟨rfl, hb⟩
      have HB1 := Lib.hid (HB.out.trans (hb.mono HB.out.size))
      clear hb
      go_wp2_with fail
      go_ret
      exact ⟨rfl, HB1.out⟩
  · go_upto_region 3 with fail
    have hc := rtt_all HAa.out
    obtain ⟨c0, c1, c2, c3⟩ := hc
    go_cut [9] from 20 to 29 (fun p wx => p = .pointer (some ⟨w0.heap.size, 0, none⟩) ∧ Blk wx w0.heap.size 83 a.cells.toArray ∧ Below w0.heap.size w0 wx)
    case first =>
      refine wp_region_tree (S := (fun W' => W'.cell? ⟨W.heap.size, 0, none⟩ = some (.int .i64 a.li) ∧ W'.cell? ⟨W.heap.size, 1, none⟩ = some (.int .i64 a.pi) ∧ W'.cell? ⟨W.heap.size, 2, none⟩ = some (.int .i64 a.fr) ∧ W'.cell? ⟨W.heap.size, 3, none⟩ = some (.int .u64 (a.s : Nat)) ∧ Below w0.heap.size w0 W')) (.take 0 (.take 1 (.take 2 (.take 3 (.take 4 (.take 5 (.take 6 (.take 7 (.two 8 (.take 9 (.one 10 (.one 11 .nil))) 10 (.one 8 (.take 9 (.one 11 .nil)))))))))))) 9999 (by kernel_rfl) (by kernel_rfl) (by kernel_rfl) (by kernel_rfl) (by kernel_rfl) (fun _ _ d _ _ h => by cases d <;> exact h) ?_ (fun hHeld => ?_); (focus (exact ⟨c0, c1, c2, c3, (Below.refl _ _).drew⟩)); simp only [Tree.map, List.getElem?_toArray, List.getElem?_cons_zero, List.getElem?_cons_succ]
      (repeat (first | (refine wpTree.take (v := undef) (Or.inr ⟨by rfl, rfl⟩) ?_; simp only [Act.put, List.setIfInBounds_toArray, List.set_cons_zero, List.set_cons_succ]) | (refine wpTree.take (v := .agg (Tt.rcells ?_).toArray) (yieldsIf_load_mid rfl 81 _ rfl _ _ rfl (Tt.rcells _) _ ?_ Try.underlying81 rfl (rttinfo _)) ?_; rotate_left; (focus (intro _ hS; refine mrange_next hS ?_; assumption)); simp only [Act.put, List.setIfInBounds_toArray, List.set_cons_zero, List.set_cons_succ]) | (refine wpTree.take (v := .agg (Tt.cells ?_).toArray) (yieldsIf_load_mid rfl 83 _ rfl _ _ rfl (Tt.cells _) _ ?_ Try.underlying83 rfl (ttinfo _)) ?_; rotate_left; (focus (intro _ hS; refine mrange_next hS ?_; assumption)); simp only [Act.put, List.setIfInBounds_toArray, List.set_cons_zero, List.set_cons_succ]) | (refine wpTree.take (v := ?_) (Or.inl ⟨by rfl, ?_⟩) ?_; rotate_left; (focus (intro _ hS; (try dsimp only at hS); go_split_ands; (try subst hS); go_simp; (try (with_reducible rfl)); done)); simp only [Act.put, List.setIfInBounds_toArray, List.set_cons_zero, List.set_cons_succ])))
      refine wpTree.two ?_ ?_
      · refine wpTree.one (fun K hK => ?_)
        go_simp
        refine hK.out _ _ hHeld (fun hHeld' => ?_)
        clear hK K hHeld
        have hHeld := hHeld'
        clear hHeld'
        (try simp only [Act.put, List.setIfInBounds_toArray, List.set_cons_zero, List.set_cons_succ])
        refine wpTree.take (yields_buildM a.cells.toArray (by rfl) 83 [(0, _), (1, _), (2, _), (3, _)] rfl (built_tt a)) ?_
        (try simp only [Act.put, List.setIfInBounds_toArray, List.set_cons_zero, List.set_cons_succ])
        refine wpTree.one (fun K hK => ?_)
        go_simp
        obtain ⟨q0, q1, q2, q3, q4⟩ := hHeld
        have hal := (Below.refl w0.drew.heap.size w0.drew).alloc (Nat.le_refl _) (.cells #[.int .i64 0, .int .i64 0, .int .i64 0, .float .f64 0] 83)
        have hnb := Blk.new w0.drew 83 #[.int .i64 0, .int .i64 0, .int .i64 0, .float .f64 0]
        have hlt := HLa.out
        refine hK.out _ _ ⟨(hal.cell (p := ⟨W.heap.size, 0, none⟩) hlt).trans q0, (hal.cell (p := ⟨W.heap.size, 1, none⟩) hlt).trans q1, (hal.cell (p := ⟨W.heap.size, 2, none⟩) hlt).trans q2, (hal.cell (p := ⟨W.heap.size, 3, none⟩) hlt).trans q3, q4.alloc (Nat.le_refl _) _⟩ (fun hHeld => ?_)
        clear hK K q0 q1 q2 q3 q4 hal
        (try simp only [Act.put, List.setIfInBounds_toArray, List.set_cons_zero, List.set_cons_succ])
        refine wpTree.one (fun K hK => ?_)
        refine step_store_blk (by rfl) 83 _ _ rfl w0.drew.heap.size 83 _ a.cells.toArray rfl rfl hnb (ttinfoA _) (tt_siz _) (tt_one _) ?_
        obtain ⟨q0, q1, q2, q3, q4⟩ := hHeld
        have hst := below_setRow (Below.refl w0.drew.heap.size (w0.drew.alloc (.cells #[.int .i64 0, .int .i64 0, .int .i64 0, .float .f64 0] 83))) (Nat.le_refl _) a.cells.toArray
        refine hK.out _ _ ⟨(hst.cell (p := ⟨W.heap.size, 0, none⟩) hlt).trans q0, (hst.cell (p := ⟨W.heap.size, 1, none⟩) hlt).trans q1, (hst.cell (p := ⟨W.heap.size, 2, none⟩) hlt).trans q2, (hst.cell (p := ⟨W.heap.size, 3, none⟩) hlt).trans q3, below_setRow q4 (Nat.le_refl _) _⟩ (fun hHeld => ?_)
        clear hK K
        refine wpTree.done ?_
        have hrow := hnb.setRow a.cells.toArray
        clear q0 q1 q2 q3 q4 hst hnb c0 c1 c2 c3
        go_wp2_with fail
        go_meet
        exact ⟨rfl, hrow, hHeld.2.2.2.2⟩
      · refine wpTree.one (fun K hK => ?_)
        go_simp
        obtain ⟨q0, q1, q2, q3, q4⟩ := hHeld
        have hal := (Below.refl w0.drew.heap.size w0.drew).alloc (Nat.le_refl _) (.cells #[.int .i64 0, .int .i64 0, .int .i64 0, .float .f64 0] 83)
        have hnb := Blk.new w0.drew 83 #[.int .i64 0, .int .i64 0, .int .i64 0, .float .f64 0]
        have hlt := HLa.out
        refine hK.out _ _ ⟨(hal.cell (p := ⟨W.heap.size, 0, none⟩) hlt).trans q0, (hal.cell (p := ⟨W.heap.size, 1, none⟩) hlt).trans q1, (hal.cell (p := ⟨W.heap.size, 2, none⟩) hlt).trans q2, (hal.cell (p := ⟨W.heap.size, 3, none⟩) hlt).trans q3, q4.alloc (Nat.le_refl _) _⟩ (fun hHeld => ?_)
        clear hK K q0 q1 q2 q3 q4 hal
        (try simp only [Act.put, List.setIfInBounds_toArray, List.set_cons_zero, List.set_cons_succ])
        refine wpTree.one (fun K hK => ?_)
        go_simp
        refine hK.out _ _ hHeld (fun hHeld' => ?_)
        clear hK K hHeld
        have hHeld := hHeld'
        clear hHeld'
        (try simp only [Act.put, List.setIfInBounds_toArray, List.set_cons_zero, List.set_cons_succ])
        refine wpTree.take (yields_buildM a.cells.toArray (by rfl) 83 [(0, _), (1, _), (2, _), (3, _)] rfl (built_tt a)) ?_
        (try simp only [Act.put, List.setIfInBounds_toArray, List.set_cons_zero, List.set_cons_succ])
        refine wpTree.one (fun K hK => ?_)
        refine step_store_blk (by rfl) 83 _ _ rfl w0.drew.heap.size 83 _ a.cells.toArray rfl rfl hnb (ttinfoA _) (tt_siz _) (tt_one _) ?_
        obtain ⟨q0, q1, q2, q3, q4⟩ := hHeld
        have hst := below_setRow (Below.refl w0.drew.heap.size (w0.drew.alloc (.cells #[.int .i64 0, .int .i64 0, .int .i64 0, .float .f64 0] 83))) (Nat.le_refl _) a.cells.toArray
        refine hK.out _ _ ⟨(hst.cell (p := ⟨W.heap.size, 0, none⟩) hlt).trans q0, (hst.cell (p := ⟨W.heap.size, 1, none⟩) hlt).trans q1, (hst.cell (p := ⟨W.heap.size, 2, none⟩) hlt).trans q2, (hst.cell (p := ⟨W.heap.size, 3, none⟩) hlt).trans q3, below_setRow q4 (Nat.le_refl _) _⟩ (fun hHeld => ?_)
        clear hK K
        refine wpTree.done ?_
        have hrow := hnb.setRow a.cells.toArray
        clear q0 q1 q2 q3 q4 hst hnb c0 c1 c2 c3
        go_wp2_with fail
        go_meet
        exact ⟨rfl, hrow, hHeld.2.2.2.2⟩
    case rest =>
      obtain ⟨rfl, hx, hbx⟩ := hcut
      rename World => x1
      have HX := Lib.hid hx
      have HAb1 := Lib.hid (HAb.out.next hbx)
      have HAa1 := Lib.hid (HAa.out.next hbx)
      have HB1 := Lib.hid (HB.out.trans (hbx.mono HB.out.size))
      clear hx hbx c0 c1 c2 c3
      replace HAb := HAb1
      have HLb := Lib.hid (show W.heap.size + 1 < x1.heap.size from HAb.out.lt)
      go_upto_region 4 with fail
      have hc := rtt_all HAb.out
      obtain ⟨c0, c1, c2, c3⟩ := hc
      go_cut [10] from 30 to 39 (fun p wx => p = .pointer (some ⟨x1.heap.size, 0, none⟩) ∧ Blk wx x1.heap.size 83 b.cells.toArray ∧ Below x1.heap.size x1 wx)
      case first =>
        refine wp_region_tree (S := (fun W' => W'.cell? ⟨(W.heap.size + 1), 0, none⟩ = some (.int .i64 b.li) ∧ W'.cell? ⟨(W.heap.size + 1), 1, none⟩ = some (.int .i64 b.pi) ∧ W'.cell? ⟨(W.heap.size + 1), 2, none⟩ = some (.int .i64 b.fr) ∧ W'.cell? ⟨(W.heap.size + 1), 3, none⟩ = some (.int .u64 (b.s : Nat)) ∧ Below x1.heap.size x1 W')) (.take 0 (.take 1 (.take 2 (.take 3 (.take 4 (.take 5 (.take 6 (.take 7 (.two 8 (.take 9 (.one 10 (.one 11 .nil))) 10 (.one 8 (.take 9 (.one 11 .nil)))))))))))) 9999 (by kernel_rfl) (by kernel_rfl) (by kernel_rfl) (by kernel_rfl) (by kernel_rfl) (fun _ _ d _ _ h => by cases d <;> exact h) ?_ (fun hHeld => ?_); (focus (exact ⟨c0, c1, c2, c3, (Below.refl _ _).drew⟩)); simp only [Tree.map, List.getElem?_toArray, List.getElem?_cons_zero, List.getElem?_cons_succ]
        (repeat (first | (refine wpTree.take (v := undef) (Or.inr ⟨by rfl, rfl⟩) ?_; simp only [Act.put, List.setIfInBounds_toArray, List.set_cons_zero, List.set_cons_succ]) | (refine wpTree.take (v := .agg (Tt.rcells ?_).toArray) (yieldsIf_load_mid rfl 81 _ rfl _ _ rfl (Tt.rcells _) _ ?_ Try.underlying81 rfl (rttinfo _)) ?_; rotate_left; (focus (intro _ hS; refine mrange_next hS ?_; assumption)); simp only [Act.put, List.setIfInBounds_toArray, List.set_cons_zero, List.set_cons_succ]) | (refine wpTree.take (v := .agg (Tt.cells ?_).toArray) (yieldsIf_load_mid rfl 83 _ rfl _ _ rfl (Tt.cells _) _ ?_ Try.underlying83 rfl (ttinfo _)) ?_; rotate_left; (focus (intro _ hS; refine mrange_next hS ?_; assumption)); simp only [Act.put, List.setIfInBounds_toArray, List.set_cons_zero, List.set_cons_succ]) | (refine wpTree.take (v := ?_) (Or.inl ⟨by rfl, ?_⟩) ?_; rotate_left; (focus (intro _ hS; (try dsimp only at hS); go_split_ands; (try subst hS); go_simp; (try (with_reducible rfl)); done)); simp only [Act.put, List.setIfInBounds_toArray, List.set_cons_zero, List.set_cons_succ])))
        refine wpTree.two ?_ ?_
        · refine wpTree.one (fun K hK => ?_)
          go_simp
          refine hK.out _ _ hHeld (fun hHeld' => ?_)
          clear hK K hHeld
          have hHeld := hHeld'
          clear hHeld'
          (try simp only [Act.put, List.setIfInBounds_toArray, List.set_cons_zero, List.set_cons_succ])
          refine wpTree.take (yields_buildM b.cells.toArray (by rfl) 83 [(0, _), (1, _), (2, _), (3, _)] rfl (built_tt b)) ?_
          (try simp only [Act.put, List.setIfInBounds_toArray, List.set_cons_zero, List.set_cons_succ])
          refine wpTree.one (fun K hK => ?_)
          go_simp
          obtain ⟨q0, q1, q2, q3, q4⟩ := hHeld
          have hal := (Below.refl x1.drew.heap.size x1.drew).alloc (Nat.le_refl _) (.cells #[.int .i64 0, .int .i64 0, .int .i64 0, .float .f64 0] 83)
          have hnb := Blk.new x1.drew 83 #[.int .i64 0, .int .i64 0, .int .i64 0, .float .f64 0]
          have hlt := HLb.out
          refine hK.out _ _ ⟨(hal.cell (p := ⟨(W.heap.size + 1), 0, none⟩) hlt).trans q0, (hal.cell (p := ⟨(W.heap.size + 1), 1, none⟩) hlt).trans q1, (hal.cell (p := ⟨(W.heap.size + 1), 2, none⟩) hlt).trans q2, (hal.cell (p := ⟨(W.heap.size + 1), 3, none⟩) hlt).trans q3, q4.alloc (Nat.le_refl _) _⟩ (fun hHeld => ?_)
          clear hK K q0 q1 q2 q3 q4 hal
          (try simp only [Act.put, List.setIfInBounds_toArray, List.set_cons_zero, List.set_cons_succ])
          refine wpTree.one (fun K hK => ?_)
          refine step_store_blk (by rfl) 83 _ _ rfl x1.drew.heap.size 83 _ b.cells.toArray rfl rfl hnb (ttinfoA _) (tt_siz _) (tt_one _) ?_
          obtain ⟨q0, q1, q2, q3, q4⟩ := hHeld
          have hst := below_setRow (Below.refl x1.drew.heap.size (x1.drew.alloc (.cells #[.int .i64 0, .int .i64 0, .int .i64 0, .float .f64 0] 83))) (Nat.le_refl _) b.cells.toArray
          refine hK.out _ _ ⟨(hst.cell (p := ⟨(W.heap.size + 1), 0, none⟩) hlt).trans q0, (hst.cell (p := ⟨(W.heap.size + 1), 1, none⟩) hlt).trans q1, (hst.cell (p := ⟨(W.heap.size + 1), 2, none⟩) hlt).trans q2, (hst.cell (p := ⟨(W.heap.size + 1), 3, none⟩) hlt).trans q3, below_setRow q4 (Nat.le_refl _) _⟩ (fun hHeld => ?_)
          clear hK K
          refine wpTree.done ?_
          have hrow := hnb.setRow b.cells.toArray
          clear q0 q1 q2 q3 q4 hst hnb c0 c1 c2 c3
          go_wp2_with fail
          go_meet
          exact ⟨rfl, hrow, hHeld.2.2.2.2⟩
        · refine wpTree.one (fun K hK => ?_)
          go_simp
          obtain ⟨q0, q1, q2, q3, q4⟩ := hHeld
          have hal := (Below.refl x1.drew.heap.size x1.drew).alloc (Nat.le_refl _) (.cells #[.int .i64 0, .int .i64 0, .int .i64 0, .float .f64 0] 83)
          have hnb := Blk.new x1.drew 83 #[.int .i64 0, .int .i64 0, .int .i64 0, .float .f64 0]
          have hlt := HLb.out
          refine hK.out _ _ ⟨(hal.cell (p := ⟨(W.heap.size + 1), 0, none⟩) hlt).trans q0, (hal.cell (p := ⟨(W.heap.size + 1), 1, none⟩) hlt).trans q1, (hal.cell (p := ⟨(W.heap.size + 1), 2, none⟩) hlt).trans q2, (hal.cell (p := ⟨(W.heap.size + 1), 3, none⟩) hlt).trans q3, q4.alloc (Nat.le_refl _) _⟩ (fun hHeld => ?_)
          clear hK K q0 q1 q2 q3 q4 hal
          (try simp only [Act.put, List.setIfInBounds_toArray, List.set_cons_zero, List.set_cons_succ])
          refine wpTree.one (fun K hK => ?_)
          go_simp
          refine hK.out _ _ hHeld (fun hHeld' => ?_)
          clear hK K hHeld
          have hHeld := hHeld'
          clear hHeld'
          (try simp only [Act.put, List.setIfInBounds_toArray, List.set_cons_zero, List.set_cons_succ])
          refine wpTree.take (yields_buildM b.cells.toArray (by rfl) 83 [(0, _), (1, _), (2, _), (3, _)] rfl (built_tt b)) ?_
          (try simp only [Act.put, List.setIfInBounds_toArray, List.set_cons_zero, List.set_cons_succ])
          refine wpTree.one (fun K hK => ?_)
          refine step_store_blk (by rfl) 83 _ _ rfl x1.drew.heap.size 83 _ b.cells.toArray rfl rfl hnb (ttinfoA _) (tt_siz _) (tt_one _) ?_
          obtain ⟨q0, q1, q2, q3, q4⟩ := hHeld
          have hst := below_setRow (Below.refl x1.drew.heap.size (x1.drew.alloc (.cells #[.int .i64 0, .int .i64 0, .int .i64 0, .float .f64 0] 83))) (Nat.le_refl _) b.cells.toArray
          refine hK.out _ _ ⟨(hst.cell (p := ⟨(W.heap.size + 1), 0, none⟩) hlt).trans q0, (hst.cell (p := ⟨(W.heap.size + 1), 1, none⟩) hlt).trans q1, (hst.cell (p := ⟨(W.heap.size + 1), 2, none⟩) hlt).trans q2, (hst.cell (p := ⟨(W.heap.size + 1), 3, none⟩) hlt).trans q3, below_setRow q4 (Nat.le_refl _) _⟩ (fun hHeld => ?_)
          clear hK K
          refine wpTree.done ?_
          have hrow := hnb.setRow b.cells.toArray
          clear q0 q1 q2 q3 q4 hst hnb c0 c1 c2 c3
          go_wp2_with fail
          go_meet
          exact ⟨rfl, hrow, hHeld.2.2.2.2⟩
      case rest =>
        obtain ⟨rfl, hy, hbx⟩ := hcut
        rename World => x2
        have HY := Lib.hid hy
        have HX2 := Lib.hid (HX.out.next hbx)
        have HAb2 := Lib.hid (HAb.out.next hbx)
        have HAa2 := Lib.hid (HAa1.out.next hbx)
        have HB2 := Lib.hid (HB1.out.trans (hbx.mono HB1.out.size))
        clear hy hbx c0 c1 c2 c3
        have rx := HX2.out.range
        have ry := HY.out.range
        have ra := HAa2.out.range
        have rb := HAb2.out.range
        have HQ2 := Lib.hid (HQ.out.next HB2.out)
        have HV2 := Lib.hid (HV.out.next HB2.out)
        obtain ⟨J, hJ⟩ : ∃ J, J = totM (qs.zip ms) := ⟨_, rfl⟩
        have MS := fun A' c' (W' : World) hq' hm' => msum_any A A' n m c c' qs ms W' HN.out HM.out (by omega) (by omega) hq' hm' HP.out
        have RS := fun (W' : World) hq' hm' => rsum7_any A B n m c d qs ms W' HN.out HM.out (by omega) (by omega) hq' hm' HP.out
        rw [← hJ] at MS RS
        have heq1 := fun w => eq_rtt J J w
        have heq2 := fun w => eq_rtt a b w
        rw [sameT_self] at heq1
        have ST := fun w => sametotal_any a b w
        obtain ⟨SB, hSB⟩ : ∃ SB, SB = sameT a b := ⟨_, rfl⟩
        rw [← hSB] at ST
        simp only [← hSB] at heq2
        clear hSB hJ
        go_upto_region 5 with fail
        refine wp_region_tree (S := (fun w => Below x2.heap.size x2 w)) (.one 0 (.take 1 (.take 2 (.take 3 (.take 7 (.take 8 (.one 4 (.one 5 (.one 6 (.one 9 (.take 10 (.take 11 (.take 12 (.take 13 (.take 14 (.take 16 (.take 17 (.take 18 (.one 15 (.take 19 (.take 20 (.take 21 .nil)))))))))))))))))))))) 9999 (by kernel_rfl) (by kernel_rfl) (by kernel_rfl) (by kernel_rfl) (by kernel_rfl) (fun _ _ d _ _ h => by cases d <;> exact h) ?_ (fun hHeld => ?_); (focus (exact (Below.refl _ _).drew)); simp only [Tree.map, List.getElem?_toArray, List.getElem?_cons_zero, List.getElem?_cons_succ]
        (repeat (first | (refine wpTree.take (v := undef) (Or.inr ⟨by rfl, rfl⟩) ?_; simp only [Act.put, List.setIfInBounds_toArray, List.set_cons_zero, List.set_cons_succ]) | (refine wpTree.take (v := .agg (Tt.rcells ?_).toArray) (yieldsIf_load_mid rfl 81 _ rfl _ _ rfl (Tt.rcells _) _ ?_ Try.underlying81 rfl (rttinfo _)) ?_; rotate_left; (focus (intro _ hS; refine mrange_next hS ?_; assumption)); simp only [Act.put, List.setIfInBounds_toArray, List.set_cons_zero, List.set_cons_succ]) | (refine wpTree.take (v := .agg (Tt.cells ?_).toArray) (yieldsIf_load_mid rfl 83 _ rfl _ _ rfl (Tt.cells _) _ ?_ Try.underlying83 rfl (ttinfo _)) ?_; rotate_left; (focus (intro _ hS; refine mrange_next hS ?_; assumption)); simp only [Act.put, List.setIfInBounds_toArray, List.set_cons_zero, List.set_cons_succ]) | (refine wpTree.take (v := ?_) (Or.inl ⟨by rfl, ?_⟩) ?_; rotate_left; (focus (intro _ hS; (try dsimp only at hS); go_split_ands; (try subst hS); go_simp; (try (with_reducible rfl)); done)); simp only [Act.put, List.setIfInBounds_toArray, List.set_cons_zero, List.set_cons_succ])))
        refine wpTree.one (fun K hK => ?_)
        go_simp
        go_at_call 28
        refine (alive7_any _).mono ?_
        rintro e z1 ⟨rfl, hb⟩
        have hBelow := Below.trans hHeld (hb.mono (Below.size hHeld))
        refine hK.out _ _ hBelow (fun hHeld' => ?_)
        clear hK K hHeld hBelow hb
        have hHeld := hHeld'
        clear hHeld'
        (try simp only [Act.put, List.setIfInBounds_toArray, List.set_cons_zero, List.set_cons_succ])
        (repeat (first | (refine wpTree.take (v := undef) (Or.inr ⟨by rfl, rfl⟩) ?_; simp only [Act.put, List.setIfInBounds_toArray, List.set_cons_zero, List.set_cons_succ]) | (refine wpTree.take (v := .agg (Tt.rcells ?_).toArray) (yieldsIf_load_mid rfl 81 _ rfl _ _ rfl (Tt.rcells _) _ ?_ Try.underlying81 rfl (rttinfo _)) ?_; rotate_left; (focus (intro _ hS; refine mrange_next hS ?_; assumption)); simp only [Act.put, List.setIfInBounds_toArray, List.set_cons_zero, List.set_cons_succ]) | (refine wpTree.take (v := .agg (Tt.cells ?_).toArray) (yieldsIf_load_mid rfl 83 _ rfl _ _ rfl (Tt.cells _) _ ?_ Try.underlying83 rfl (ttinfo _)) ?_; rotate_left; (focus (intro _ hS; refine mrange_next hS ?_; assumption)); simp only [Act.put, List.setIfInBounds_toArray, List.set_cons_zero, List.set_cons_succ]) | (refine wpTree.take (v := ?_) (Or.inl ⟨by rfl, ?_⟩) ?_; rotate_left; (focus (intro _ hS; (try dsimp only at hS); go_split_ands; (try subst hS); go_simp; (try (with_reducible rfl)); done)); simp only [Act.put, List.setIfInBounds_toArray, List.set_cons_zero, List.set_cons_succ])))
        refine wpTree.one (fun K hK => ?_)
        go_simp
        go_at_call 34
        refine (marks_any B m d ms _ HM.out (by omega) (HV2.out.next hHeld)).mono ?_
        rintro e z2 ⟨vm, rfl, ho, hb⟩
        obtain ⟨A1, c1, rfl, -, -, hm⟩ := ho.mks
        have HM1 := Lib.hid hm
        clear hm ho
        have hBelow := Below.trans hHeld (hb.mono (Below.size hHeld))
        refine hK.out _ _ hBelow (fun hHeld' => ?_)
        clear hK K hHeld hBelow hb
        have hHeld := hHeld'
        clear hHeld'
        (try simp only [Act.put, List.setIfInBounds_toArray, List.set_cons_zero, List.set_cons_succ])
        (repeat (first | (refine wpTree.take (v := undef) (Or.inr ⟨by rfl, rfl⟩) ?_; simp only [Act.put, List.setIfInBounds_toArray, List.set_cons_zero, List.set_cons_succ]) | (refine wpTree.take (v := .agg (Tt.rcells ?_).toArray) (yieldsIf_load_mid rfl 81 _ rfl _ _ rfl (Tt.rcells _) _ ?_ Try.underlying81 rfl (rttinfo _)) ?_; rotate_left; (focus (intro _ hS; refine mrange_next hS ?_; assumption)); simp only [Act.put, List.setIfInBounds_toArray, List.set_cons_zero, List.set_cons_succ]) | (refine wpTree.take (v := .agg (Tt.cells ?_).toArray) (yieldsIf_load_mid rfl 83 _ rfl _ _ rfl (Tt.cells _) _ ?_ Try.underlying83 rfl (ttinfo _)) ?_; rotate_left; (focus (intro _ hS; refine mrange_next hS ?_; assumption)); simp only [Act.put, List.setIfInBounds_toArray, List.set_cons_zero, List.set_cons_succ]) | (refine wpTree.take (v := ?_) (Or.inl ⟨by rfl, ?_⟩) ?_; rotate_left; (focus (intro _ hS; (try dsimp only at hS); go_split_ands; (try subst hS); go_simp; (try (with_reducible rfl)); done)); simp only [Act.put, List.setIfInBounds_toArray, List.set_cons_zero, List.set_cons_succ])))
        refine wpTree.one (fun K hK => ?_)
        go_simp
        go_at_call 42
        refine (MS A1 c1 _ (HQ2.out.next hHeld) HM1.out).mono ?_
        rintro e z3 ⟨rfl, hb⟩
        have hBelow := Below.trans hHeld (hb.mono (Below.size hHeld))
        refine hK.out _ _ hBelow (fun hHeld' => ?_)
        clear hK K hHeld hBelow hb
        have hHeld := hHeld'
        clear hHeld'
        (try simp only [Act.put, List.setIfInBounds_toArray, List.set_cons_zero, List.set_cons_succ])
        (repeat (first | (refine wpTree.take (v := undef) (Or.inr ⟨by rfl, rfl⟩) ?_; simp only [Act.put, List.setIfInBounds_toArray, List.set_cons_zero, List.set_cons_succ]) | (refine wpTree.take (v := .agg (Tt.rcells ?_).toArray) (yieldsIf_load_mid rfl 81 _ rfl _ _ rfl (Tt.rcells _) _ ?_ Try.underlying81 rfl (rttinfo _)) ?_; rotate_left; (focus (intro _ hS; refine mrange_next hS ?_; assumption)); simp only [Act.put, List.setIfInBounds_toArray, List.set_cons_zero, List.set_cons_succ]) | (refine wpTree.take (v := .agg (Tt.cells ?_).toArray) (yieldsIf_load_mid rfl 83 _ rfl _ _ rfl (Tt.cells _) _ ?_ Try.underlying83 rfl (ttinfo _)) ?_; rotate_left; (focus (intro _ hS; refine mrange_next hS ?_; assumption)); simp only [Act.put, List.setIfInBounds_toArray, List.set_cons_zero, List.set_cons_succ]) | (refine wpTree.take (v := ?_) (Or.inl ⟨by rfl, ?_⟩) ?_; rotate_left; (focus (intro _ hS; (try dsimp only at hS); go_split_ands; (try subst hS); go_simp; (try (with_reducible rfl)); done)); simp only [Act.put, List.setIfInBounds_toArray, List.set_cons_zero, List.set_cons_succ])))
        refine wpTree.one (fun K hK => ?_)
        go_simp
        go_at_call 41
        refine (astotal_any J _).mono ?_
        rintro e z4 ⟨rfl, hb⟩
        have hBelow := Below.trans hHeld (hb.mono (Below.size hHeld))
        refine hK.out _ _ hBelow (fun hHeld' => ?_)
        clear hK K hHeld hBelow hb
        have hHeld := hHeld'
        clear hHeld'
        (try simp only [Act.put, List.setIfInBounds_toArray, List.set_cons_zero, List.set_cons_succ])
        (repeat (first | (refine wpTree.take (v := undef) (Or.inr ⟨by rfl, rfl⟩) ?_; simp only [Act.put, List.setIfInBounds_toArray, List.set_cons_zero, List.set_cons_succ]) | (refine wpTree.take (v := .agg (Tt.rcells ?_).toArray) (yieldsIf_load_mid rfl 81 _ rfl _ _ rfl (Tt.rcells _) _ ?_ Try.underlying81 rfl (rttinfo _)) ?_; rotate_left; (focus (intro _ hS; refine mrange_next hS ?_; assumption)); simp only [Act.put, List.setIfInBounds_toArray, List.set_cons_zero, List.set_cons_succ]) | (refine wpTree.take (v := .agg (Tt.cells ?_).toArray) (yieldsIf_load_mid rfl 83 _ rfl _ _ rfl (Tt.cells _) _ ?_ Try.underlying83 rfl (ttinfo _)) ?_; rotate_left; (focus (intro _ hS; refine mrange_next hS ?_; assumption)); simp only [Act.put, List.setIfInBounds_toArray, List.set_cons_zero, List.set_cons_succ]) | (refine wpTree.take (v := ?_) (Or.inl ⟨by rfl, ?_⟩) ?_; rotate_left; (focus (intro _ hS; (try dsimp only at hS); go_split_ands; (try subst hS); go_simp; (try (with_reducible rfl)); done)); simp only [Act.put, List.setIfInBounds_toArray, List.set_cons_zero, List.set_cons_succ])))
        refine wpTree.one (fun K hK => ?_)
        go_simp
        go_at_call 43
        refine (RS _ (HQ2.out.next hHeld) (HV2.out.next hHeld)).mono ?_
        rintro e z5 ⟨rfl, hb⟩
        have hBelow := Below.trans hHeld (hb.mono (Below.size hHeld))
        refine hK.out _ _ hBelow (fun hHeld' => ?_)
        clear hK K hHeld hBelow hb
        have hHeld := hHeld'
        clear hHeld'
        (try simp only [Act.put, List.setIfInBounds_toArray, List.set_cons_zero, List.set_cons_succ])
        (repeat (first | (refine wpTree.take (v := undef) (Or.inr ⟨by rfl, rfl⟩) ?_; simp only [Act.put, List.setIfInBounds_toArray, List.set_cons_zero, List.set_cons_succ]) | (refine wpTree.take (v := .agg (Tt.rcells ?_).toArray) (yieldsIf_load_mid rfl 81 _ rfl _ _ rfl (Tt.rcells _) _ ?_ Try.underlying81 rfl (rttinfo _)) ?_; rotate_left; (focus (intro _ hS; refine mrange_next hS ?_; assumption)); simp only [Act.put, List.setIfInBounds_toArray, List.set_cons_zero, List.set_cons_succ]) | (refine wpTree.take (v := .agg (Tt.cells ?_).toArray) (yieldsIf_load_mid rfl 83 _ rfl _ _ rfl (Tt.cells _) _ ?_ Try.underlying83 rfl (ttinfo _)) ?_; rotate_left; (focus (intro _ hS; refine mrange_next hS ?_; assumption)); simp only [Act.put, List.setIfInBounds_toArray, List.set_cons_zero, List.set_cons_succ]) | (refine wpTree.take (v := ?_) (Or.inl ⟨by rfl, ?_⟩) ?_; rotate_left; (focus (intro _ hS; (try dsimp only at hS); go_split_ands; (try subst hS); go_simp; (try (with_reducible rfl)); done)); simp only [Act.put, List.setIfInBounds_toArray, List.set_cons_zero, List.set_cons_succ])))
        refine wpTree.one (fun K hK => ?_)
        go_simp
        go_at_call 44
        refine (ST _).mono ?_
        rintro e z6 ⟨rfl, hb⟩
        have hBelow := Below.trans hHeld (hb.mono (Below.size hHeld))
        refine hK.out _ _ hBelow (fun hHeld' => ?_)
        clear hK K hHeld hBelow hb
        have hHeld := hHeld'
        clear hHeld'
        (try simp only [Act.put, List.setIfInBounds_toArray, List.set_cons_zero, List.set_cons_succ])
        (repeat (first | (refine wpTree.take (v := undef) (Or.inr ⟨by rfl, rfl⟩) ?_; simp only [Act.put, List.setIfInBounds_toArray, List.set_cons_zero, List.set_cons_succ]) | (refine wpTree.take (v := .agg (Tt.rcells ?_).toArray) (yieldsIf_load_mid rfl 81 _ rfl _ _ rfl (Tt.rcells _) _ ?_ Try.underlying81 rfl (rttinfo _)) ?_; rotate_left; (focus (intro _ hS; refine mrange_next hS ?_; assumption)); simp only [Act.put, List.setIfInBounds_toArray, List.set_cons_zero, List.set_cons_succ]) | (refine wpTree.take (v := .agg (Tt.cells ?_).toArray) (yieldsIf_load_mid rfl 83 _ rfl _ _ rfl (Tt.cells _) _ ?_ Try.underlying83 rfl (ttinfo _)) ?_; rotate_left; (focus (intro _ hS; refine mrange_next hS ?_; assumption)); simp only [Act.put, List.setIfInBounds_toArray, List.set_cons_zero, List.set_cons_succ]) | (refine wpTree.take (v := ?_) (Or.inl ⟨by rfl, ?_⟩) ?_; rotate_left; (focus (intro _ hS; (try dsimp only at hS); go_split_ands; (try subst hS); go_simp; (try (with_reducible rfl)); done)); simp only [Act.put, List.setIfInBounds_toArray, List.set_cons_zero, List.set_cons_succ])))
        refine wpTree.done ?_
        clear ra rb rx ry
        go_wp2_with fail
        go_ret
        exact ⟨rfl, HB2.out.trans (hHeld.mono HB2.out.size)⟩
end Go.Proofs.Ytlejnjgepnjceaa

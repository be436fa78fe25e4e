/-
The document's Right, key; As.
-/
import Derived.Test.YtlejnjgepnjceaaMkMath
import Derived.Test.YtlejnjgepnjceaaMk6
import Derived.Test.YtlejnjgepnjceaaStore
namespace Go.Proofs.Ytlejnjgepnjceaa
open Go.RowKit
attribute [local go_sem] Tot.run_store_float

def rrightM (m : Mk) : Bool := (decide (0 ≤ m.f) && decide (m.f < 4)) && (m.h || decide (m.p = 0))
theorem rright_eq (m : Mk) : rrightM m = rightM m := by
  unfold rrightM rightM Num.sameB
  have : decide (m.f < 4) = decide (m.f ≤ 3) := decide_eq_decide.2 (by omega)
  rw [this, Bool.and_comm]
set_option maxRecDepth 20000 in
set_option maxHeartbeats 4000000 in
theorem rright_any (m : Mk) (W : World) : Calls Try.prog 30 #[.agg m.rcells.toArray] W fun e W' => e = .returned (.bool (rightM m)) ∧ Below W.heap.size W W' := by
  have hB0 := Lib.hid ((Below.refl W.heap.size W).alloc (Nat.le_refl _) (.cells m.rcells.toArray 63))
  obtain ⟨_, c0, c1, c2⟩ := rmk_all (Blk.new W 63 m.rcells.toArray)
  have H : Hid (rightM m = ((decide (0 ≤ m.f) && decide (m.f < 4)) && (m.h || decide (m.p = 0)))) := Lib.hid (rright_eq m).symm
  have hz : (((m.p : Nat) : Int) == 0) = decide (m.p = 0) := by rw [Bool.eq_iff_iff]; simp
  cases hh : m.h <;> cases hs : decide (m.p = 0) <;> cases h0 : decide (0 ≤ m.f) <;> cases h3 : decide (m.f < 4)
  all_goals
    rw [hh, hs, h0, h3] at H
    rw [hh] at c1
    rw [hs] at hz
    go_enter Try.func30, Try.ntmps30
    go_wp2_with fail
    go_ret
    exact ⟨by rw [H.out]; rfl, hB0.out⟩
theorem rkey7_any (b : Nat) (W : World) (hb : b < 18446744073709551616) : Calls Try.prog 80 #[.int .u64 (b : Nat)] W fun e W' => e = .returned (.int .u64 (Num.key b : Nat)) ∧ W' = W := by
  have cb := Tot.call_frombits
  go_enter Try.func80, Try.ntmps80
  go_wp2_with fail
  refine (Tot.rkey_any b _ hb).mono ?_
  rintro e w' ⟨rfl, rfl⟩
  go_wp2_with fail
  go_ret
  exact ⟨rfl, rfl⟩

def zR : Array Value := #[.int .i64 0, .bool false, .int .u64 0]
theorem rmkinfoA (m : Mk) : (Try.prog.info? 63).map (·.size) = some m.rcells.toArray.size := by rw [List.size_toArray, rmk_len]; kernel_rfl
theorem rmk_one (m : Mk) : m.rcells.toArray.all (·.oneCell') = true := by rw [rmk_arr]; simp [Value.oneCell']
theorem built_rmk_fill (parts : List (Nat × Value)) : Try.prog.built 63 parts = Instr.fill (#[(0, 1), (1, 1), (2, 1)][·]?) #[.int .i64 0, .bool false, .int .u64 0] parts := by kernel_rfl
theorem built_rmk (m : Mk) : Try.prog.built 63 [(0, .int .i64 m.f), (1, .bool m.h), (2, .int .u64 (m.p : Nat))] = some m.rcells.toArray := by
  rw [built_rmk_fill, rmk_arr]
  rfl
theorem rmFields : (Try.prog.fieldsOf 63).toList.map (fun f => (f.name != "_", f.type, f.offset)) = [(true, 3, 0), (true, 4, 1), (true, 22, 2)] := by kernel_rfl
def eqRM (a b : Mk) : Bool := (a.f == b.f) && ((a.h == b.h) && decide (a.p = b.p))
theorem eqRM_same (a b : Mk) : eqRM a b = sameM a b := rfl
set_option maxRecDepth 20000 in
set_option maxHeartbeats 4000000 in
theorem mas_any (o : Mk) (W : World) : Calls Try.prog 32 #[.agg o.cells.toArray] W fun e W' => e = .returned (.agg o.rcells.toArray) ∧ Below W.heap.size W W' := by
  have hsz : (W.alloc (.cells o.cells.toArray 65)).heap.size = W.heap.size + 1 := by simp
  have bA := (Blk.new W 65 o.cells.toArray).alloc (.cells #[.int .i64 0, .bool false, .int .u64 0] 63)
  have bB := Blk.new (W.alloc (.cells o.cells.toArray 65)) 63 #[.int .i64 0, .bool false, .int .u64 0]
  rw [hsz] at bB
  have hB0 := ((Below.refl W.heap.size W).alloc (Nat.le_refl _) (.cells o.cells.toArray 65)).alloc (by rw [hsz]; omega) (.cells #[.int .i64 0, .bool false, .int .u64 0] 63)
  obtain ⟨_, c0, c1, c2⟩ := mk_all bA
  have cb := Tot.call_bits
  clear bA
  go_enter Try.func32, Try.ntmps32
  go_wp2_with fail
  obtain ⟨W1, hw⟩ : ∃ W1, W1 = (W.alloc (.cells o.cells.toArray 65)).alloc (.cells #[.int .i64 0, .bool false, .int .u64 0] 63) := ⟨_, rfl⟩
  rw [← hw] at c0 c1 c2 bB hB0 ⊢
  clear hw hsz
  refine wp_region_tree (S := (fun W' => W'.cell? ⟨W.heap.size, 0, none⟩ = some (.int .i64 o.f) ∧ W'.cell? ⟨W.heap.size, 1, none⟩ = some (.bool o.h) ∧ W'.cell? ⟨W.heap.size, 2, none⟩ = some (.float .f64 o.p) ∧ Below W.heap.size W W' ∧ ∃ cs, Blk W' (W.heap.size + 1) 63 cs ∧ cs.size = 3)) (.take 0 (.take 1 (.take 2 (.take 3 (.take 4 (.take 5 (.one 6 (.take 7 (.one 8 .nil))))))))) 9999 (by kernel_rfl) (by kernel_rfl) (by kernel_rfl) (by kernel_rfl) (by kernel_rfl) (fun _ _ d _ _ h => by cases d <;> exact h) ?_ (fun hHeld => ?_); (focus (exact ⟨c0, c1, c2, hB0.drew, _, bB.drew, rfl⟩)); simp only [Tree.map, List.getElem?_toArray, List.getElem?_cons_zero, List.getElem?_cons_succ]
  (repeat (first | (refine wpTree.take (v := undef) (Or.inr ⟨by rfl, rfl⟩) ?_; simp only [Act.put, List.setIfInBounds_toArray, List.set_cons_zero, List.set_cons_succ]) | (refine wpTree.take (v := ?_) (Or.inl ⟨by rfl, ?_⟩) ?_; rotate_left; (focus (intro _ hS; (try dsimp only at hS); go_split_ands; (try subst hS); go_simp; (try (with_reducible rfl)); done)); simp only [Act.put, List.setIfInBounds_toArray, List.set_cons_zero, List.set_cons_succ])))
  refine wpTree.one (fun K hK => ?_)
  go_simp
  refine hK.out _ _ hHeld (fun _ => ?_)
  clear hK K
  refine wpTree.take (yields_buildM o.rcells.toArray (by rfl) 63 [(0, _), (1, _), (2, _)] rfl (built_rmk o)) ?_
  simp only [Act.put, List.setIfInBounds_toArray, List.set_cons_zero, List.set_cons_succ]
  obtain ⟨_, _, _, hbl, cs, bc, hcs⟩ := hHeld
  refine wpTree.one (fun K hK => ?_)
  refine step_store_blk (by rfl) 63 _ _ rfl (W.heap.size + 1) 63 cs o.rcells.toArray rfl rfl bc (rmkinfoA _) (hcs.trans (by rw [List.size_toArray, rmk_len])) (rmk_one _) ?_
  have hb2 := below_setRow hbl (show W.heap.size ≤ W.heap.size + 1 by omega) o.rcells.toArray
  have hS3 := below_setRow (Below.refl (W.heap.size + 1) W1.drew) (Nat.le_refl _) o.rcells.toArray
  have hc := fun i => hS3.cell (p := ⟨W.heap.size, i, none⟩) (Nat.lt_succ_self _)
  refine hK.out _ _ ⟨(hc 0).trans c0, (hc 1).trans c1, (hc 2).trans c2, hb2, _, bc.setRow _, by rw [List.size_toArray, rmk_len]⟩ (fun _ => ?_)
  clear hK K
  refine wpTree.done ?_
  have hrow := bc.setRow o.rcells.toArray
  clear hS3 hc c0 c1 c2 bB hB0 bc
  go_wp2_with fail
  exact bodyPost_row (t := 63) o.rcells.toArray rfl rfl rfl Try.underlying63 rfl (rmkinfoA _) hrow ⟨rfl, hb2⟩
end Go.Proofs.Ytlejnjgepnjceaa

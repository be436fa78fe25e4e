/-
tree: Great.
-/
import Derived.Test.YtohnhokddbeheaaTr15
namespace Go.Proofs.Ytohnhokddbeheaa
open Go.RowKit
set_option linter.unusedSimpArgs false
set_option linter.unusedVariables false
namespace Tr
set_option maxRecDepth 20000 in
theorem great_any (W : World) (t : Tv) : Calls Try.prog 5 #[.agg t.cells.toArray] W fun e W' => e = .returned (.bool (decide (20 < t.es.length))) ∧ Below W.heap.size W W' := by
  have hb2 := (Below.refl W.heap.size W).alloc (Nat.le_refl _) (.cells t.cells.toArray 25)
  have hx : Blk (W.alloc (.cells t.cells.toArray 25)) W.heap.size 25 t.cells.toArray := Blk.new W _ _
  obtain ⟨w2, hw2⟩ : ∃ w2, w2 = W.alloc (.cells t.cells.toArray 25) := ⟨_, rfl⟩
  rw [← hw2] at hb2 hx
  have HB2 := Lib.hid hb2
  obtain ⟨n, hn⟩ : ∃ n, n = t.es.length := ⟨_, rfl⟩
  have c12 : w2.cell? ⟨W.heap.size, 12, none⟩ = some (.slice t.A n t.c) := by rw [hx.cell, List.getElem?_toArray, tv_12, hn]
  rw [← hn]
  clear hb2 hx hn
  by_cases h : 20 < n
  · have i1 : (20 : Int) < ((n : Nat) : Int) := by omega
    have HV := Lib.hid (decide_eq_true h)
    clear h
    go_enter Try.func5, Try.ntmps5
    go_upto_region 1 with fail
    rw [← hw2]
    clear hw2
    go_wp2_with fail
    go_ret
    exact ⟨by (rw [HV.out]; try rfl), HB2.out⟩
  · have i1 : ¬ (20 : Int) < ((n : Nat) : Int) := by omega
    have HV := Lib.hid (decide_eq_false h)
    clear h
    go_enter Try.func5, Try.ntmps5
    go_upto_region 1 with fail
    rw [← hw2]
    clear hw2
    go_wp2_with fail
    go_ret
    exact ⟨by (rw [HV.out]; try rfl), HB2.out⟩
end Tr
end Go.Proofs.Ytohnhokddbeheaa

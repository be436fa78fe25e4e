/-
link: LinkLives, handed over.
-/
import Derived.Test.YtbgjghgmdhnhbaaLk26
namespace Go.Proofs.Ytbgjghgmdhnhbaa
open Go.RowKit Go.ChangeShapes Go.WideShapes Go.ChangeAt Go.WideElems
set_option linter.unusedSimpArgs false
set_option linter.unusedVariables false
namespace Lk
section
variable {H : Type} {enc : TypeId × Value → H} {w : World}
set_option maxRecDepth 100000 in
theorem open_do2 {base fuel : Nat} {hd : Bool} {cs : List Value} {x : DataW H × List MemPlace} (h : DataW.trod enc Try.prog w base (fun _ => true) hd fuel 43 cs = some x) (hlt : ∀ y ∈ x.2, y.block < w.heap.size) :
    ∃ p : Do, cs = p.cells ∧ p.Ok w ∧ p.q < 18446744073709551616 := by
  obtain ⟨xs, m, _, hx, hcl, hlen, hg⟩ := DataW.trod_struct Try.underlying43 h
  rw [cells_do] at hcl
  have g0 : DataW.trod enc Try.prog w base (fun _ => true) hd m 3 ((cs.drop 0).take (Try.prog.cellsOf 3)) = xs[0]? := hg 0 _ rfl
  have g1 : DataW.trod enc Try.prog w base (fun _ => true) hd m 22 ((cs.drop 1).take (Try.prog.cellsOf 22)) = xs[1]? := hg 1 _ rfl
  have g2 : DataW.trod enc Try.prog w base (fun _ => true) hd m 23 ((cs.drop 2).take (Try.prog.cellsOf 23)) = xs[2]? := hg 2 _ rfl
  have hlen3 : xs.length = 3 := hlen
  clear hg hlen
  rw [cells_one3.1] at g0
  rw [cells_one3.2.1] at g1
  rw [cells_one3.2.2] at g2
  rw [List.getElem?_eq_getElem (by omega)] at g0 g1 g2
  obtain ⟨k, e0, _, w0⟩ := DataW.trod_int Try.underlying3 g0
  obtain ⟨q, e1, _, w1⟩ := DataW.trod_int Try.underlying22 g1
  obtain ⟨A, ml, c, bs, e2, hm, hc, hc2, hby, hcell, hA⟩ := Byt.open_bytes_cells g2 (fun y hy => hlt y (by rw [hx]; exact List.mem_flatMap.2 ⟨xs[2], List.getElem_mem (by omega), hy⟩)) (fun _ => rfl)
  subst hm
  have hq := bounds_u64 w1
  obtain ⟨n, rfl⟩ : ∃ n : Nat, q = (n : Nat) := ⟨q.toNat, by omega⟩
  exact ⟨⟨k, n, A, c, bs⟩, three_cells hcl e0 e1 e2, ⟨hc, hby, hcell, hA⟩, by show n < _; omega⟩
end

set_option maxRecDepth 100000 in
theorem lives_lifted (os : Os) (started : os.Started) (H : Type) (enc : TypeId × Value → H) :
    ReturnsInHanded {} Try.checked os 4 .any (Rows.linkLivesSpec.pre6 enc Try.prog Try.f4 Rows.linkLivesRow.domain false) (Rows.linkLivesSpec.post enc Try.prog Try.f4 false true false false) := by
  refine law_lift (C := Try.checked) own_knob started (by kernel_rfl) Try.func4 rfl Try.underlying4 laid_out (by kernel_rfl) rfl ?_
    (ChangeSpec.witness6 (enc := enc) (C := Try.checked) false ⟨#[], #[.slice none 0 0], []⟩ 8 (by kernel_rfl) (by kernel_rfl) (by kernel_rfl) (by kernel_rfl)) ?_
  · intro ds hds
    match ds, hds with
    | [_], _ => rfl
  intro W base args ds ps hval hA hlt hsz
  rw [Try.params4] at hA hval
  obtain ⟨v0, vs0, d0, ds0, p0, q0, hargs, rfl, rfl, h0, r0⟩ := trodAll_cons hA
  obtain ⟨rfl, rfl, rfl⟩ := trodAll_nil r0
  obtain rfl : args = #[v0] := by cases args; simp_all
  obtain ⟨A1, c1, l1, rfl, hl1, hc1, hr1, hok1⟩ := open_rows Try.underlying35 3 cells_do (by omega) Do.cells (fun x => Do.Ok W x ∧ x.q < 18446744073709551616) ⟨0, 0, none, 0, []⟩ do_len (hval 0 35 v0 rfl rfl) h0 (fun x hx => hlt x (by simp [hx])) (fun _ _ _ _ h hlt => open_do2 h hlt)
  exact lives_walk W A1 l1.length c1 l1 rfl hr1 (fun x hx => (hok1 x hx).1) (fun x hx => (hok1 x hx).2)

theorem lives_holds : Rows.LinkLivesSaid :=
  OpenClaim.holds_of_wide 4 Try.f4 rfl rfl rfl rfl rfl rfl rfl ⟨rfl, rfl, rfl, rfl, rfl⟩ rfl rfl rfl rfl rfl (by kernel_rfl) Try.func4 (by kernel_rfl)
    (of_decide_eq_true (by kernel_rfl)) (by unfold Func.isWrapper; first | (rw [if_pos (by decide +kernel)]; kernel_rfl) | (rw [if_neg (by decide +kernel)]; exact ⟨rfl, rfl⟩))
    (fun os started H enc _ => lives_lifted os started H enc)

end Lk
end Go.Proofs.Ytbgjghgmdhnhbaa

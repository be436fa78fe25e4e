/-
A function's end with a result in a box and one beside it. It speaks of any program.
-/
import Derived.Test.YtifoheodcbjapaaStore
namespace Go.Proofs.Ytifoheodcbjapaa
open Go.RowKit
theorem bodyPost_row_tmp {P : Program} {fn : Func} {R : Ending → World → Prop} {a : Act} {p u : Tmp} {ty : TypeId} {w : World} {g : Nat} {t : TypeId} (cs : Array Value) (x : Value) {d : TypeDesc} (h : fn.results = #[.cell p ty, .tmp u]) (ha : a.defers = [])
    (hp : a.tmps.getD p undef = .pointer (some ⟨g, 0, none⟩)) (hx : a.tmps.getD u undef = x)
    (hu : P.underlying ty = some d) (hd : (match d with | .struct _ | .array _ _ => true | _ => false) = true) (hi : (P.info? ty).map (·.size) = some cs.size) (hg : Blk w g t cs)
    (hR : R (.returned (.tuple #[.agg cs, x])) w) : bodyPost P fn R .ret a w := by
  refine bodyPost_ret (v := .tuple #[.agg cs, x]) ?_ ha hR
  rw [results_cell_tmp h, hp, hx]
  simp [asAddr, run_loadVar_row w g t ty cs (0, 0) d hg hu hd hi]
end Go.Proofs.Ytifoheodcbjapaa

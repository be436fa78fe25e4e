/-
  No cell of these rows narrows 'for every input' (looked for: loops, veiled, ifaces, maps, wideKeys, modest, calm, conditions, laid).
  DERIVED. THE GIVEN ROWS OF THIS SEAT. 3 by the template 'for every input the law returns true; each argument reads behind the call as it read before'; 0 by the template 'total and deterministic' (their statements: YtbnapbjmffajfaaTotals.lean).
  GIVEN WITH THE SEED: the statements are not yours to turn. If you find one false, say at which input.
  Laid BY PROGRAM, IN A SANDBOX (cutbox-rows.mjs): the forced cells as the released guide's own fill.sh prints them over the translation 87d8460b8a676b4e… (all of the seat's roots in one cut). By AI agents, Wed Nov 11 2026. No macro, syntax, notation, axiom, sorry.
-/
import Derived.Test.YtbnapbjmffajfaaChecked
import GoSem.Claim
import GoSem.ClaimJoined
import GoSem.ClaimMapViews
import Derived.JoinedTies
import Derived.KernelRfl
namespace Go.Proofs.Ytbnapbjmffajfaa
/- THE CELL 'sum', in the pinned program and in every row, IS THE sha256 OF THE DUMP (.gsa) THAT YtbnapbjmffajfaaProg.lean LOADS. Nothing in Lean hashes anything: it is a label: what it is worth is what the hold of that sum in a sandbox is worth. -/
noncomputable def Try.pinned : Pinned := { name := "ytbnapbjmffajfaa", sum := "87d8460b8a676b4e5c6e997655d03f21e8bb40a8b899701fb8c15ef20bd4d17c", checked := Try.checked }
namespace Rows
def none {H : Type} : Left H := { results := [], args := [] }

/-- 'truglaw11.CutsOne': WHATEVER THE INPUT: true; the input reads as it did. -/
def cutsOneSpec : ChangeSpec := { name := "cutsOne", fn := fun _ => fun
  | [d] => { results := [.lit (.bool true)], args := [d] }
  | _ => none }
def cutsOneRow : OpenClaim := { program := "ytbnapbjmffajfaa", sum := "87d8460b8a676b4e5c6e997655d03f21e8bb40a8b899701fb8c15ef20bd4d17c", func := "trug/truglaw11.CutsOne", spec := "cutsOne", unfollowed := true, recurses := true, apart := false }
def CutsOneSaid : Prop := cutsOneRow.holds Try.pinned (OpenSpec.ofChange cutsOneSpec)

/-- ITS FALSE NEIGHBOUR: 'it returns false'. Refute it at one input. -/
def cutsOneWrong : ChangeSpec := { name := "cutsOne", fn := fun _ => fun
  | [d] => { results := [.lit (.bool false)], args := [d] }
  | _ => none }
def CutsOneWrongFalsely : Prop := cutsOneRow.holds Try.pinned (OpenSpec.ofChange cutsOneWrong)

/-- 'truglaw11.CutsRise': WHATEVER THE INPUT: true; the input reads as it did. -/
def cutsRiseSpec : ChangeSpec := { name := "cutsRise", fn := fun _ => fun
  | [d] => { results := [.lit (.bool true)], args := [d] }
  | _ => none }
def cutsRiseRow : OpenClaim := { program := "ytbnapbjmffajfaa", sum := "87d8460b8a676b4e5c6e997655d03f21e8bb40a8b899701fb8c15ef20bd4d17c", func := "trug/truglaw11.CutsRise", spec := "cutsRise", unfollowed := true, recurses := true, apart := false }
def CutsRiseSaid : Prop := cutsRiseRow.holds Try.pinned (OpenSpec.ofChange cutsRiseSpec)

/-- ITS FALSE NEIGHBOUR: 'it returns false'. Refute it at one input. -/
def cutsRiseWrong : ChangeSpec := { name := "cutsRise", fn := fun _ => fun
  | [d] => { results := [.lit (.bool false)], args := [d] }
  | _ => none }
def CutsRiseWrongFalsely : Prop := cutsRiseRow.holds Try.pinned (OpenSpec.ofChange cutsRiseWrong)

/-- 'truglaw11.CutsBack': WHATEVER THE INPUT: true; the input reads as it did. -/
def cutsBackSpec : ChangeSpec := { name := "cutsBack", fn := fun _ => fun
  | [d1, d2] => { results := [.lit (.bool true)], args := [d1, d2] }
  | _ => none }
def cutsBackRow : OpenClaim := { program := "ytbnapbjmffajfaa", sum := "87d8460b8a676b4e5c6e997655d03f21e8bb40a8b899701fb8c15ef20bd4d17c", func := "trug/truglaw11.CutsBack", spec := "cutsBack", unfollowed := true, recurses := true, apart := false }
def CutsBackSaid : Prop := cutsBackRow.holds Try.pinned (OpenSpec.ofChange cutsBackSpec)

/-- ITS FALSE NEIGHBOUR: 'it returns false'. Refute it at one input. -/
def cutsBackWrong : ChangeSpec := { name := "cutsBack", fn := fun _ => fun
  | [d1, d2] => { results := [.lit (.bool false)], args := [d1, d2] }
  | _ => none }
def CutsBackWrongFalsely : Prop := cutsBackRow.holds Try.pinned (OpenSpec.ofChange cutsBackWrong)

/- THE SECOND FORM. 'bulk': how many values and letters a reading holds, each counted each time it is reached (what is shared counts as often as it is met; a slice's spare places count too). A statement '..UptoSaid' is the law's where the arguments, and the package variables that the reading takes, are together of bulk at most 1048576: NARROWER than '..Said'. Prove '..Said' where nothing that the law and all that it calls make is longer than what came in: it says more and counts as full. Else prove '..UptoSaid'. A law counts once. -/
mutual
def uptoBulk {H : Type} : DataW H → Nat
  | .lit (.string bytes) => bytes.length + 1
  | .lit _ => 1
  | .nil => 1
  | .ptr d => uptoBulk d + 1
  | .slice elems spare => uptoBulkAll elems + uptoBulkAll spare + 1
  | .agg parts => uptoBulkAll parts + 1
  | .iface _ d => uptoBulk d + 1
  | .map entries => uptoBulkEntries entries + 1
  | .held _ => 1
def uptoBulkAll {H : Type} : List (DataW H) → Nat
  | [] => 0
  | d :: r => uptoBulk d + uptoBulkAll r
def uptoBulkEntries {H : Type} : List (Lit × DataW H) → Nat
  | [] => 0
  | x :: r => uptoBulkEntry x + uptoBulkEntries r
def uptoBulkEntry {H : Type} : Lit × DataW H → Nat
  | (.string bytes, d) => bytes.length + uptoBulk d + 1
  | (_, d) => uptoBulk d + 1
 end
def uptoSmall : (H : Type) → List (DataW H) → Bool := fun _ ds => decide (uptoBulkAll ds ≤ 1048576)
def OpenSpec.upto (s : _root_.Go.ChangeSpec) : _root_.Go.OpenSpec := { _root_.Go.OpenSpec.ofChange s with cond := some uptoSmall }

/-- 'truglaw11.CutsOne', WHERE WHAT IT READS IS OF BULK AT MOST 1048576: true; the input reads as it did. -/
def cutsOneUptoRow : OpenClaim := { program := "ytbnapbjmffajfaa", sum := "87d8460b8a676b4e5c6e997655d03f21e8bb40a8b899701fb8c15ef20bd4d17c", func := "trug/truglaw11.CutsOne", spec := "cutsOne", unfollowed := true, recurses := true, apart := false, narrowed := true }
def CutsOneUptoSaid : Prop := cutsOneUptoRow.holds Try.pinned (OpenSpec.upto cutsOneSpec)

/-- 'truglaw11.CutsRise', WHERE WHAT IT READS IS OF BULK AT MOST 1048576: true; the input reads as it did. -/
def cutsRiseUptoRow : OpenClaim := { program := "ytbnapbjmffajfaa", sum := "87d8460b8a676b4e5c6e997655d03f21e8bb40a8b899701fb8c15ef20bd4d17c", func := "trug/truglaw11.CutsRise", spec := "cutsRise", unfollowed := true, recurses := true, apart := false, narrowed := true }
def CutsRiseUptoSaid : Prop := cutsRiseUptoRow.holds Try.pinned (OpenSpec.upto cutsRiseSpec)

/-- 'truglaw11.CutsBack', WHERE WHAT IT READS IS OF BULK AT MOST 1048576: true; the input reads as it did. -/
def cutsBackUptoRow : OpenClaim := { program := "ytbnapbjmffajfaa", sum := "87d8460b8a676b4e5c6e997655d03f21e8bb40a8b899701fb8c15ef20bd4d17c", func := "trug/truglaw11.CutsBack", spec := "cutsBack", unfollowed := true, recurses := true, apart := false, narrowed := true }
def CutsBackUptoSaid : Prop := cutsBackUptoRow.holds Try.pinned (OpenSpec.upto cutsBackSpec)

end Rows
end Go.Proofs.Ytbnapbjmffajfaa

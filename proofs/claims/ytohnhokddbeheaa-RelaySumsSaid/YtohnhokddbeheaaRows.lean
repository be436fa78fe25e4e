/-
  No cell of these rows narrows 'for every input' (looked for: loops, veiled, ifaces, maps, wideKeys, modest, calm, conditions, laid).
  DERIVED. THE GIVEN ROWS OF THIS SEAT. 2 by the template 'for every input the law returns true; each argument reads behind the call as it read before'; 0 by the template 'total and deterministic' (their statements: YtohnhokddbeheaaTotals.lean).
  GIVEN WITH THE SEED: the statements are not yours to turn. If you find one false, say at which input.
  Laid BY PROGRAM, IN A SANDBOX (cutbox-rows.mjs): the forced cells as the released guide's own fill.sh prints them over the translation 99276746e57358f3… (all of the seat's roots in one cut). By AI agents, Wed Nov 11 2026. No macro, syntax, notation, axiom, sorry.
-/
import Derived.Test.YtohnhokddbeheaaChecked
import GoSem.Claim
import GoSem.ClaimJoined
import GoSem.ClaimMapViews
import Derived.JoinedTies
import Derived.KernelRfl
namespace Go.Proofs.Ytohnhokddbeheaa
/- THE CELL 'sum', in the pinned program and in every row, IS THE sha256 OF THE DUMP (.gsa) THAT YtohnhokddbeheaaProg.lean LOADS. Nothing in Lean hashes anything: it is a label: what it is worth is what the hold of that sum in a sandbox is worth. -/
noncomputable def Try.pinned : Pinned := { name := "ytohnhokddbeheaa", sum := "99276746e57358f3140357cdc34a0a80c8d70705147c126df5e7020f55067622", checked := Try.checked }
namespace Rows
def none {H : Type} : Left H := { results := [], args := [] }

/-- 'truglaw20.RelayLives': WHATEVER THE INPUT: true; the input reads as it did. -/
def relayLivesSpec : ChangeSpec := { name := "relayLives", fn := fun _ => fun
  | [d1, d2, d3, d4] => { results := [.lit (.bool true)], args := [d1, d2, d3, d4] }
  | _ => none }
def relayLivesRow : OpenClaim := { program := "ytohnhokddbeheaa", sum := "99276746e57358f3140357cdc34a0a80c8d70705147c126df5e7020f55067622", func := "trug/truglaw20.RelayLives", spec := "relayLives", unfollowed := true, recurses := true, apart := false }
def RelayLivesSaid : Prop := relayLivesRow.holds Try.pinned (OpenSpec.ofChange relayLivesSpec)

/-- ITS FALSE NEIGHBOUR: 'it returns false'. Refute it at one input. -/
def relayLivesWrong : ChangeSpec := { name := "relayLives", fn := fun _ => fun
  | [d1, d2, d3, d4] => { results := [.lit (.bool false)], args := [d1, d2, d3, d4] }
  | _ => none }
def RelayLivesWrongFalsely : Prop := relayLivesRow.holds Try.pinned (OpenSpec.ofChange relayLivesWrong)

/-- 'truglaw20.RelaySums': WHATEVER THE INPUT: true; the input reads as it did. -/
def relaySumsSpec : ChangeSpec := { name := "relaySums", fn := fun _ => fun
  | [d1, d2, d3] => { results := [.lit (.bool true)], args := [d1, d2, d3] }
  | _ => none }
def relaySumsRow : OpenClaim := { program := "ytohnhokddbeheaa", sum := "99276746e57358f3140357cdc34a0a80c8d70705147c126df5e7020f55067622", func := "trug/truglaw20.RelaySums", spec := "relaySums", unfollowed := true, recurses := true, apart := false }
def RelaySumsSaid : Prop := relaySumsRow.holds Try.pinned (OpenSpec.ofChange relaySumsSpec)

/-- ITS FALSE NEIGHBOUR: 'it returns false'. Refute it at one input. -/
def relaySumsWrong : ChangeSpec := { name := "relaySums", fn := fun _ => fun
  | [d1, d2, d3] => { results := [.lit (.bool false)], args := [d1, d2, d3] }
  | _ => none }
def RelaySumsWrongFalsely : Prop := relaySumsRow.holds Try.pinned (OpenSpec.ofChange relaySumsWrong)

/- THE SECOND FORM. 'bulk': how many values and letters a reading holds, each counted each time it is reached (what is shared counts as often as it is met; a slice's spare places count too). A statement '..UptoSaid' is the law's where the arguments, and the package variables that the reading takes, are together of bulk at most 1048576: NARROWER than '..Said'. Prove '..Said' where nothing that the law and all that it calls make is longer than what came in: it says more and counts as full. Else prove '..UptoSaid'. A law counts once. -/
mutual
def uptoBulk {H : Type} : DataW H → Nat
  | .lit (.string bytes) => bytes.length + 1
  | .lit _ => 1
  | .nil => 1
  | .ptr d => uptoBulk d + 1
  | .slice elems spare => uptoBulkAll elems + uptoBulkAll spare + 1
  | .agg parts => uptoBulkAll parts + 1
  | .iface _ d => uptoBulk d + 1
  | .map entries => uptoBulkEntries entries + 1
  | .held _ => 1
def uptoBulkAll {H : Type} : List (DataW H) → Nat
  | [] => 0
  | d :: r => uptoBulk d + uptoBulkAll r
def uptoBulkEntries {H : Type} : List (Lit × DataW H) → Nat
  | [] => 0
  | x :: r => uptoBulkEntry x + uptoBulkEntries r
def uptoBulkEntry {H : Type} : Lit × DataW H → Nat
  | (.string bytes, d) => bytes.length + uptoBulk d + 1
  | (_, d) => uptoBulk d + 1
 end
def uptoSmall : (H : Type) → List (DataW H) → Bool := fun _ ds => decide (uptoBulkAll ds ≤ 1048576)
def OpenSpec.upto (s : _root_.Go.ChangeSpec) : _root_.Go.OpenSpec := { _root_.Go.OpenSpec.ofChange s with cond := some uptoSmall }

/-- 'truglaw20.RelayLives', WHERE WHAT IT READS IS OF BULK AT MOST 1048576: true; the input reads as it did. -/
def relayLivesUptoRow : OpenClaim := { program := "ytohnhokddbeheaa", sum := "99276746e57358f3140357cdc34a0a80c8d70705147c126df5e7020f55067622", func := "trug/truglaw20.RelayLives", spec := "relayLives", unfollowed := true, recurses := true, apart := false, narrowed := true }
def RelayLivesUptoSaid : Prop := relayLivesUptoRow.holds Try.pinned (OpenSpec.upto relayLivesSpec)

/-- 'truglaw20.RelaySums', WHERE WHAT IT READS IS OF BULK AT MOST 1048576: true; the input reads as it did. -/
def relaySumsUptoRow : OpenClaim := { program := "ytohnhokddbeheaa", sum := "99276746e57358f3140357cdc34a0a80c8d70705147c126df5e7020f55067622", func := "trug/truglaw20.RelaySums", spec := "relaySums", unfollowed := true, recurses := true, apart := false, narrowed := true }
def RelaySumsUptoSaid : Prop := relaySumsUptoRow.holds Try.pinned (OpenSpec.upto relaySumsSpec)

end Rows
end Go.Proofs.Ytohnhokddbeheaa

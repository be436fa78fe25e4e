/-
  No cell of these rows narrows 'for every input' (looked for: loops, veiled, ifaces, maps, wideKeys, modest, calm, conditions, laid).
  DERIVED. THE GIVEN ROWS OF THIS SEAT. 4 by the template 'for every input the law returns true; each argument reads behind the call as it read before'; 0 by the template 'total and deterministic' (their statements: YtlceljcplmcjgaaTotals.lean).
  GIVEN WITH THE SEED: the statements are not yours to turn. If you find one false, say at which input.
  Laid BY PROGRAM, IN A SANDBOX (cutbox-rows.mjs): the forced cells as the released guide's own fill.sh prints them over the translation 5ad09c96702ab70e… (all of the seat's roots in one cut). By AI agents, Wed Nov 11 2026. No macro, syntax, notation, axiom, sorry.
-/
import Derived.Test.YtlceljcplmcjgaaChecked
import GoSem.Claim
import GoSem.ClaimJoined
import GoSem.ClaimMapViews
import Derived.JoinedTies
import Derived.KernelRfl
namespace Go.Proofs.Ytlceljcplmcjgaa
/- THE CELL 'sum', in the pinned program and in every row, IS THE sha256 OF THE DUMP (.gsa) THAT YtlceljcplmcjgaaProg.lean LOADS. Nothing in Lean hashes anything: it is a label: what it is worth is what the hold of that sum in a sandbox is worth. -/
noncomputable def Try.pinned : Pinned := { name := "ytlceljcplmcjgaa", sum := "5ad09c96702ab70e55ee45543e5d1b1e814ef4a09afe4bda315ecbd8704f4cd5", checked := Try.checked }
namespace Rows
def none {H : Type} : Left H := { results := [], args := [] }

/-- 'truglaw21.PeersLive': WHATEVER THE INPUT: true; the input reads as it did. -/
def peersLiveSpec : ChangeSpec := { name := "peersLive", fn := fun _ => fun
  | [d1, d2, d3] => { results := [.lit (.bool true)], args := [d1, d2, d3] }
  | _ => none }
def peersLiveRow : OpenClaim := { program := "ytlceljcplmcjgaa", sum := "5ad09c96702ab70e55ee45543e5d1b1e814ef4a09afe4bda315ecbd8704f4cd5", func := "trug/truglaw21.PeersLive", spec := "peersLive", unfollowed := true, recurses := true, apart := false }
def PeersLiveSaid : Prop := peersLiveRow.holds Try.pinned (OpenSpec.ofChange peersLiveSpec)

/-- ITS FALSE NEIGHBOUR: 'it returns false'. Refute it at one input. -/
def peersLiveWrong : ChangeSpec := { name := "peersLive", fn := fun _ => fun
  | [d1, d2, d3] => { results := [.lit (.bool false)], args := [d1, d2, d3] }
  | _ => none }
def PeersLiveWrongFalsely : Prop := peersLiveRow.holds Try.pinned (OpenSpec.ofChange peersLiveWrong)

/-- 'truglaw21.PeersApart': WHATEVER THE INPUT: true; the input reads as it did. -/
def peersApartSpec : ChangeSpec := { name := "peersApart", fn := fun _ => fun
  | [d1, d2] => { results := [.lit (.bool true)], args := [d1, d2] }
  | _ => none }
def peersApartRow : OpenClaim := { program := "ytlceljcplmcjgaa", sum := "5ad09c96702ab70e55ee45543e5d1b1e814ef4a09afe4bda315ecbd8704f4cd5", func := "trug/truglaw21.PeersApart", spec := "peersApart", unfollowed := true, recurses := true, apart := false }
def PeersApartSaid : Prop := peersApartRow.holds Try.pinned (OpenSpec.ofChange peersApartSpec)

/-- ITS FALSE NEIGHBOUR: 'it returns false'. Refute it at one input. -/
def peersApartWrong : ChangeSpec := { name := "peersApart", fn := fun _ => fun
  | [d1, d2] => { results := [.lit (.bool false)], args := [d1, d2] }
  | _ => none }
def PeersApartWrongFalsely : Prop := peersApartRow.holds Try.pinned (OpenSpec.ofChange peersApartWrong)

/-- 'truglaw21.PeersStay': WHATEVER THE INPUT: true; the input reads as it did. -/
def peersStaySpec : ChangeSpec := { name := "peersStay", fn := fun _ => fun
  | [d1, d2, d3] => { results := [.lit (.bool true)], args := [d1, d2, d3] }
  | _ => none }
def peersStayRow : OpenClaim := { program := "ytlceljcplmcjgaa", sum := "5ad09c96702ab70e55ee45543e5d1b1e814ef4a09afe4bda315ecbd8704f4cd5", func := "trug/truglaw21.PeersStay", spec := "peersStay", unfollowed := true, recurses := true, apart := false }
def PeersStaySaid : Prop := peersStayRow.holds Try.pinned (OpenSpec.ofChange peersStaySpec)

/-- ITS FALSE NEIGHBOUR: 'it returns false'. Refute it at one input. -/
def peersStayWrong : ChangeSpec := { name := "peersStay", fn := fun _ => fun
  | [d1, d2, d3] => { results := [.lit (.bool false)], args := [d1, d2, d3] }
  | _ => none }
def PeersStayWrongFalsely : Prop := peersStayRow.holds Try.pinned (OpenSpec.ofChange peersStayWrong)

/-- 'truglaw21.PeersBack': WHATEVER THE INPUT: true; the input reads as it did. -/
def peersBackSpec : ChangeSpec := { name := "peersBack", fn := fun _ => fun
  | [d1, d2] => { results := [.lit (.bool true)], args := [d1, d2] }
  | _ => none }
def peersBackRow : OpenClaim := { program := "ytlceljcplmcjgaa", sum := "5ad09c96702ab70e55ee45543e5d1b1e814ef4a09afe4bda315ecbd8704f4cd5", func := "trug/truglaw21.PeersBack", spec := "peersBack", unfollowed := true, recurses := true, apart := false }
def PeersBackSaid : Prop := peersBackRow.holds Try.pinned (OpenSpec.ofChange peersBackSpec)

/-- ITS FALSE NEIGHBOUR: 'it returns false'. Refute it at one input. -/
def peersBackWrong : ChangeSpec := { name := "peersBack", fn := fun _ => fun
  | [d1, d2] => { results := [.lit (.bool false)], args := [d1, d2] }
  | _ => none }
def PeersBackWrongFalsely : Prop := peersBackRow.holds Try.pinned (OpenSpec.ofChange peersBackWrong)

/- THE SECOND FORM. 'bulk': how many values and letters a reading holds, each counted each time it is reached (what is shared counts as often as it is met; a slice's spare places count too). A statement '..UptoSaid' is the law's where the arguments, and the package variables that the reading takes, are together of bulk at most 1048576: NARROWER than '..Said'. Prove '..Said' where nothing that the law and all that it calls make is longer than what came in: it says more and counts as full. Else prove '..UptoSaid'. A law counts once. -/
mutual
def uptoBulk {H : Type} : DataW H → Nat
  | .lit (.string bytes) => bytes.length + 1
  | .lit _ => 1
  | .nil => 1
  | .ptr d => uptoBulk d + 1
  | .slice elems spare => uptoBulkAll elems + uptoBulkAll spare + 1
  | .agg parts => uptoBulkAll parts + 1
  | .iface _ d => uptoBulk d + 1
  | .map entries => uptoBulkEntries entries + 1
  | .held _ => 1
def uptoBulkAll {H : Type} : List (DataW H) → Nat
  | [] => 0
  | d :: r => uptoBulk d + uptoBulkAll r
def uptoBulkEntries {H : Type} : List (Lit × DataW H) → Nat
  | [] => 0
  | x :: r => uptoBulkEntry x + uptoBulkEntries r
def uptoBulkEntry {H : Type} : Lit × DataW H → Nat
  | (.string bytes, d) => bytes.length + uptoBulk d + 1
  | (_, d) => uptoBulk d + 1
 end
def uptoSmall : (H : Type) → List (DataW H) → Bool := fun _ ds => decide (uptoBulkAll ds ≤ 1048576)
def OpenSpec.upto (s : _root_.Go.ChangeSpec) : _root_.Go.OpenSpec := { _root_.Go.OpenSpec.ofChange s with cond := some uptoSmall }

/-- 'truglaw21.PeersLive', WHERE WHAT IT READS IS OF BULK AT MOST 1048576: true; the input reads as it did. -/
def peersLiveUptoRow : OpenClaim := { program := "ytlceljcplmcjgaa", sum := "5ad09c96702ab70e55ee45543e5d1b1e814ef4a09afe4bda315ecbd8704f4cd5", func := "trug/truglaw21.PeersLive", spec := "peersLive", unfollowed := true, recurses := true, apart := false, narrowed := true }
def PeersLiveUptoSaid : Prop := peersLiveUptoRow.holds Try.pinned (OpenSpec.upto peersLiveSpec)

/-- 'truglaw21.PeersApart', WHERE WHAT IT READS IS OF BULK AT MOST 1048576: true; the input reads as it did. -/
def peersApartUptoRow : OpenClaim := { program := "ytlceljcplmcjgaa", sum := "5ad09c96702ab70e55ee45543e5d1b1e814ef4a09afe4bda315ecbd8704f4cd5", func := "trug/truglaw21.PeersApart", spec := "peersApart", unfollowed := true, recurses := true, apart := false, narrowed := true }
def PeersApartUptoSaid : Prop := peersApartUptoRow.holds Try.pinned (OpenSpec.upto peersApartSpec)

/-- 'truglaw21.PeersStay', WHERE WHAT IT READS IS OF BULK AT MOST 1048576: true; the input reads as it did. -/
def peersStayUptoRow : OpenClaim := { program := "ytlceljcplmcjgaa", sum := "5ad09c96702ab70e55ee45543e5d1b1e814ef4a09afe4bda315ecbd8704f4cd5", func := "trug/truglaw21.PeersStay", spec := "peersStay", unfollowed := true, recurses := true, apart := false, narrowed := true }
def PeersStayUptoSaid : Prop := peersStayUptoRow.holds Try.pinned (OpenSpec.upto peersStaySpec)

/-- 'truglaw21.PeersBack', WHERE WHAT IT READS IS OF BULK AT MOST 1048576: true; the input reads as it did. -/
def peersBackUptoRow : OpenClaim := { program := "ytlceljcplmcjgaa", sum := "5ad09c96702ab70e55ee45543e5d1b1e814ef4a09afe4bda315ecbd8704f4cd5", func := "trug/truglaw21.PeersBack", spec := "peersBack", unfollowed := true, recurses := true, apart := false, narrowed := true }
def PeersBackUptoSaid : Prop := peersBackUptoRow.holds Try.pinned (OpenSpec.upto peersBackSpec)

end Rows
end Go.Proofs.Ytlceljcplmcjgaa

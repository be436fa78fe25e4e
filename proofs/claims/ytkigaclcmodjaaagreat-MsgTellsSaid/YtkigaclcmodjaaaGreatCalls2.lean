/-
The calls of package clock that write, join or ask others.
-/
import Derived.Test.YtkigaclcmodjaaaGreatCalls
import Derived.Deep.RegionWith
import Derived.Deep.RegionHeld3
namespace Go.Proofs.YtkigaclcmodjaaaGreat
open Go.RowKit

end Go.Proofs.YtkigaclcmodjaaaGreat

/-
The calls of package clock that write, join or ask others.
-/
import Derived.Test.YtkigaclcmodjaaaCalls
import Derived.Deep.RegionWith
import Derived.Deep.RegionHeld3
namespace Go.Proofs.Ytkigaclcmodjaaa
open Go.RowKit

end Go.Proofs.Ytkigaclcmodjaaa

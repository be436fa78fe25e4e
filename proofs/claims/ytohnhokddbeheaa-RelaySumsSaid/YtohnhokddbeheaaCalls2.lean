/-
The calls of package clock that write, join or ask others.
-/
import Derived.Test.YtohnhokddbeheaaCalls
import Derived.Deep.RegionWith
import Derived.Deep.RegionHeld3
namespace Go.Proofs.Ytohnhokddbeheaa
open Go.RowKit

end Go.Proofs.Ytohnhokddbeheaa

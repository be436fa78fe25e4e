/-
The calls of package clock that write, join or ask others.
-/
import Derived.Test.YteplplmfepamdaaCalls
import Derived.Deep.RegionWith
import Derived.Deep.RegionHeld3
namespace Go.Proofs.Yteplplmfepamdaa
open Go.RowKit

end Go.Proofs.Yteplplmfepamdaa

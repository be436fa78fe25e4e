/-
The calls of package clock that write, join or ask others.
-/
import Derived.Test.YtedgecijgjcfeaaCalls
import Derived.Deep.RegionWith
import Derived.Deep.RegionHeld3
namespace Go.Proofs.Ytedgecijgjcfeaa
open Go.RowKit

end Go.Proofs.Ytedgecijgjcfeaa

/-
The calls of package clock that write, join or ask others.
-/
import Derived.Test.YtbnapbjmffajfaaCalls
import Derived.Deep.RegionWith
import Derived.Deep.RegionHeld3
namespace Go.Proofs.Ytbnapbjmffajfaa
open Go.RowKit

end Go.Proofs.Ytbnapbjmffajfaa

/- Layer 16, walked: isNaN, cmp.Compare (of floats, of runes), exists, Has, count, Compare. -/
import Derived.Test.YtbdhibcbpgjbmaaGreatDoorOrP
import Derived.Test.YtbdhibcbpgjbmaaGreatDoorVeJ
import Derived.Test.YtbdhibcbpgjbmaaGreatDoorVeO
import Derived.Test.YtbdhibcbpgjbmaaGreatDoorFlD
namespace Go.Proofs.YtbdhibcbpgjbmaaGreatDoor
set_option maxRecDepth 100000
open Go.RowKit Fl
set_option linter.unusedVariables false

end Go.Proofs.YtbdhibcbpgjbmaaGreatDoor

/- Package vec's law: the reference's Tidy of lists; shows. -/
import Derived.Test.YtbdhibcbpgjbmaaGreatDoorVeO
namespace Go.Proofs.YtbdhibcbpgjbmaaGreatDoor
open Go.RowKit Fl
set_option linter.unusedVariables false
set_option maxRecDepth 100000

end Go.Proofs.YtbdhibcbpgjbmaaGreatDoor

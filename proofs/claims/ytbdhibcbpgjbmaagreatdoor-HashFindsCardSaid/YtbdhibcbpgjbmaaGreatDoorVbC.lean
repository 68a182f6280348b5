/- The reference's Num. -/
import Derived.Test.YtbdhibcbpgjbmaaGreatDoorVbA
namespace Go.Proofs.YtbdhibcbpgjbmaaGreatDoor
open Go.RowKit Fl
set_option linter.unusedVariables false
set_option maxRecDepth 100000

/-- A plain array of one number and no axes. -/
def numP (x : Nat) : PA := .mk [] [(0, x, 0, [])] 0
end Go.Proofs.YtbdhibcbpgjbmaaGreatDoor

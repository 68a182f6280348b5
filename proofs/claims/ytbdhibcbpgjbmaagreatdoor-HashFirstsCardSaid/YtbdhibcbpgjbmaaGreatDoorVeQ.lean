/- Package vec's law: shows. -/
import Derived.Test.YtbdhibcbpgjbmaaGreatDoorVeP
namespace Go.Proofs.YtbdhibcbpgjbmaaGreatDoor
open Go.RowKit Fl
set_option linter.unusedVariables false
set_option maxRecDepth 100000

theorem num_ord {x : Nat} (h : Num x) : FloatKind.f64.format.order x x = some .eq := ord_eq h.1 h.1 rfl

end Go.Proofs.YtbdhibcbpgjbmaaGreatDoor

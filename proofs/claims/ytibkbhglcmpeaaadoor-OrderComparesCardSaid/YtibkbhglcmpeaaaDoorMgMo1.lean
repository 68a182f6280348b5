/- Merged: MoM. -/
import Derived.Test.YtibkbhglcmpeaaaDoorMgSq1
/- Layer 9, plain: what every function does to a number, and to all numbers of a list. -/
namespace Go.Proofs.YtibkbhglcmpeaaaDoor
set_option maxRecDepth 100000
open Go.RowKit Fl
set_option linter.unusedVariables false

end Go.Proofs.YtibkbhglcmpeaaaDoor

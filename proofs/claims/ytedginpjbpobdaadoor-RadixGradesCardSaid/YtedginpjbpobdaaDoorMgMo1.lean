/- Merged: MoM. -/
import Derived.Test.YtedginpjbpobdaaDoorMgSq1
/- Layer 9, plain: what every function does to a number, and to all numbers of a list. -/
namespace Go.Proofs.YtedginpjbpobdaaDoor
set_option maxRecDepth 100000
open Go.RowKit Fl
set_option linter.unusedVariables false

end Go.Proofs.YtedginpjbpobdaaDoor

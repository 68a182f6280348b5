/- Merged: FoW. -/
import Derived.Lib.BitFns
import Derived.Laws.CopyOwn
import Derived.Deep.DeepMust
import Derived.Test.YtedginpjbpobdaaDoorMgVe1
/- Layer 13, walked: bits.Mul by one, slices.Repeat of one number. -/
namespace Go.Proofs.YtedginpjbpobdaaDoor
set_option maxRecDepth 100000
open Go.RowKit
set_option linter.unusedVariables false

end Go.Proofs.YtedginpjbpobdaaDoor

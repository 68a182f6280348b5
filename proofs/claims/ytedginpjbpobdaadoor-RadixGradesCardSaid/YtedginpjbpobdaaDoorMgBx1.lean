/- Merged: BxA. -/
import Derived.Test.YtedginpjbpobdaaDoorMgBv1
import Derived.Test.YtedginpjbpobdaaDoorMgVe1
/- Bits.Not and Vec.Packed, told with the blocks that their words lie in. -/
namespace Go.Proofs.YtedginpjbpobdaaDoor
set_option maxRecDepth 100000
open Go.RowKit
set_option linter.unusedVariables false

end Go.Proofs.YtedginpjbpobdaaDoor

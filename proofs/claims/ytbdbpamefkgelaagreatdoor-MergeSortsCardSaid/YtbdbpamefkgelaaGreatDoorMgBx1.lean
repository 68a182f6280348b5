/- Merged: BxA. -/
import Derived.Test.YtbdbpamefkgelaaGreatDoorMgBv1
import Derived.Test.YtbdbpamefkgelaaGreatDoorMgVe1
/- Bits.Not and Vec.Packed, told with the blocks that their words lie in. -/
namespace Go.Proofs.YtbdbpamefkgelaaGreatDoor
set_option maxRecDepth 100000
open Go.RowKit
set_option linter.unusedVariables false

end Go.Proofs.YtbdbpamefkgelaaGreatDoor

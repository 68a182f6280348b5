/- Layer 18's law: MergeOrders. -/
import Derived.Test.YtbdbpamefkgelaaGreatDoorMg2
import Derived.Test.YtbdbpamefkgelaaGreatDoorMgRx1
import Derived.Test.YtbdbpamefkgelaaGreatDoorMgOr1
import Derived.Test.YtbdbpamefkgelaaGreatDoorMgVa1
import Derived.Test.YtbdbpamefkgelaaGreatDoorMgFl1
import Derived.Test.YtbdbpamefkgelaaGreatDoorMgSq1
namespace Go.Proofs.YtbdbpamefkgelaaGreatDoor
set_option maxRecDepth 100000
open Go.RowKit Fl
set_option linter.unusedVariables false

end Go.Proofs.YtbdbpamefkgelaaGreatDoor

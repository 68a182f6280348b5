/- Layer 18: what package merge tells (the seven contracts): Sort in MgT, Cells in MgU, Grade in MgV, Ordered in MgO. -/
import Derived.Test.YtbdbpamefkgelaaGreatDoorMgP
import Derived.Test.YtbdbpamefkgelaaGreatDoorMgA
import Derived.Test.YtbdbpamefkgelaaGreatDoorMgT
import Derived.Test.YtbdbpamefkgelaaGreatDoorMgV
import Derived.Test.YtbdbpamefkgelaaGreatDoorMgO
namespace Go.Proofs.YtbdbpamefkgelaaGreatDoor
set_option maxRecDepth 100000
end Go.Proofs.YtbdbpamefkgelaaGreatDoor

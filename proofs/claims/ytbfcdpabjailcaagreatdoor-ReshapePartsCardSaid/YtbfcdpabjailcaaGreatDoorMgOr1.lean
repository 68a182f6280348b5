/- Merged: OrM, OrN, OrP, OrQ, OrA, OrB, OrR, OrE, OrS. -/
import Derived.Test.YtbfcdpabjailcaaGreatDoorMgPi1
import Derived.Test.YtbfcdpabjailcaaGreatDoorMgRe1
import Derived.Test.YtbfcdpabjailcaaGreatDoorMgVe1
import Derived.Test.YtbfcdpabjailcaaGreatDoorMgFl1
import Derived.Test.YtbfcdpabjailcaaGreatDoorMgVa1
/- Layer 16, plain: a strict total order of the first n numbers: how many are ahead of each, the one list in order. -/
namespace Go.Proofs.YtbfcdpabjailcaaGreatDoor
set_option maxRecDepth 100000
set_option linter.unusedVariables false

end Go.Proofs.YtbfcdpabjailcaaGreatDoor

/- Layer 16, plain: cells of keys, the first difference; cells and their places are in a strict total order. -/
namespace Go.Proofs.YtbfcdpabjailcaaGreatDoor
set_option maxRecDepth 100000
set_option linter.unusedVariables false

end Go.Proofs.YtbfcdpabjailcaaGreatDoor

/- Layer 16, plain: the keys of a vector's elements, how they stand. -/
namespace Go.Proofs.YtbfcdpabjailcaaGreatDoor
set_option maxRecDepth 100000
open Go.RowKit Fl
set_option linter.unusedVariables false

end Go.Proofs.YtbfcdpabjailcaaGreatDoor

/- Layer 16, plain: places, each once; where each stands. -/
namespace Go.Proofs.YtbfcdpabjailcaaGreatDoor
set_option maxRecDepth 100000
open Go.RowKit Fl
set_option linter.unusedVariables false

end Go.Proofs.YtbfcdpabjailcaaGreatDoor

/- Layer 16, walked: isNaN, cmp.Compare (of floats, of runes), exists, Has, count, Compare. -/
namespace Go.Proofs.YtbfcdpabjailcaaGreatDoor
set_option maxRecDepth 100000
open Go.RowKit Fl
set_option linter.unusedVariables false

end Go.Proofs.YtbfcdpabjailcaaGreatDoor

/- Layer 16, walked: Cells, Less. -/
namespace Go.Proofs.YtbfcdpabjailcaaGreatDoor
set_option maxRecDepth 100000
open Go.RowKit Fl
set_option linter.unusedVariables false

end Go.Proofs.YtbfcdpabjailcaaGreatDoor

/- Layer 16, plain: the one list made place by place; how often numbers come up; the example. -/
namespace Go.Proofs.YtbfcdpabjailcaaGreatDoor
set_option maxRecDepth 100000
open Go.RowKit Fl
set_option linter.unusedVariables false

end Go.Proofs.YtbfcdpabjailcaaGreatDoor

/- Layer 16, walked: the reference's Below, Cells, Less. -/
namespace Go.Proofs.YtbfcdpabjailcaaGreatDoor
set_option maxRecDepth 100000
open Go.RowKit Fl
set_option linter.unusedVariables false

end Go.Proofs.YtbfcdpabjailcaaGreatDoor

/- Layer 16, plain: the keys of a good array's vector and of its items. -/
namespace Go.Proofs.YtbfcdpabjailcaaGreatDoor
set_option maxRecDepth 100000
open Go.RowKit Fl
set_option linter.unusedVariables false

end Go.Proofs.YtbfcdpabjailcaaGreatDoor

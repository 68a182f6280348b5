/- Merged: ReM. -/
import Derived.Test.YtbfcdpabjailcaaGreatDoorMgAr1
/- Layer 11, plain: which relations hold of two numbers, and of all elements of two lists. -/
namespace Go.Proofs.YtbfcdpabjailcaaGreatDoor
set_option maxRecDepth 100000
open Go.RowKit Fl
set_option linter.unusedVariables false

end Go.Proofs.YtbfcdpabjailcaaGreatDoor

/- Package vec, walked: Kind, Class, Len, has. -/
import Derived.Test.YtnebondinjjodaaVeA
import Derived.Test.YtnebondinjjodaaBvI
namespace Go.Proofs.Ytnebondinjjodaa
open Go.RowKit
set_option linter.unusedVariables false
set_option maxRecDepth 4000
end Go.Proofs.Ytnebondinjjodaa

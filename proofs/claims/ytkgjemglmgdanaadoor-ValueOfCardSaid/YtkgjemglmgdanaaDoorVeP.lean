/- Package vec's law: the reference's Tidy of lists; shows. -/
import Derived.Test.YtkgjemglmgdanaaDoorVeO
namespace Go.Proofs.YtkgjemglmgdanaaDoor
open Go.RowKit Fl
set_option linter.unusedVariables false
set_option maxRecDepth 4000

end Go.Proofs.YtkgjemglmgdanaaDoor

/- Package vec's law: shows. -/
import Derived.Test.YtkgjemglmgdanaaDoorVeP
namespace Go.Proofs.YtkgjemglmgdanaaDoor
open Go.RowKit Fl
set_option linter.unusedVariables false
set_option maxRecDepth 8000

theorem num_ord {x : Nat} (h : Num x) : FloatKind.f64.format.order x x = some .eq := ord_eq h.1 h.1 rfl

end Go.Proofs.YtkgjemglmgdanaaDoor

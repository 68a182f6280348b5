/- Merged: ArM, ArB. -/
import Derived.Test.YtedginpjbpobdaaDoorMgNu1
import Derived.Test.YtedginpjbpobdaaDoorMgMo1
/- Layers 10 and above, plain: the vector of given numbers; a function done to all elements; what every function of two numbers does. -/
namespace Go.Proofs.YtedginpjbpobdaaDoor
set_option maxRecDepth 100000
open Go.RowKit Fl
set_option linter.unusedVariables false

end Go.Proofs.YtedginpjbpobdaaDoor

/- Layer 10, plain: the elements of two lists that go together; what whole numbers make; what Apply tells. -/
namespace Go.Proofs.YtedginpjbpobdaaDoor
set_option maxRecDepth 100000
open Go.RowKit Fl
set_option linter.unusedVariables false

end Go.Proofs.YtedginpjbpobdaaDoor

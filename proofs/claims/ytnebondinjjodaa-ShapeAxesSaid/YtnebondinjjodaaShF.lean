/- The contracts of package shape: proved in XShR .. XShW. -/
import Derived.Test.YtnebondinjjodaaShW
namespace Go.Proofs.Ytnebondinjjodaa
end Go.Proofs.Ytnebondinjjodaa

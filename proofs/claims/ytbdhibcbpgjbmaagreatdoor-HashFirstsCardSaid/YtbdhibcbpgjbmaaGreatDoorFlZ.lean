/- Package flat, walked: joined, of arrays. -/
import Derived.Test.YtbdhibcbpgjbmaaGreatDoorFlY
namespace Go.Proofs.YtbdhibcbpgjbmaaGreatDoor
set_option maxRecDepth 100000
open Go.RowKit Fl
set_option linter.unusedVariables false

theorem info_slA : (Tryz.prog.info? 103).map (fun i => (i.zero, i.size, i.bytes)) = some (some (.slice none 0 0), 1, 24) := by kernel_rfl
end Go.Proofs.YtbdhibcbpgjbmaaGreatDoor

/- Merged: ArM, ArB. -/
import Derived.Test.YtibkbhglcmpeaaaDoorMgNu1
import Derived.Test.YtibkbhglcmpeaaaDoorMgMo1
/- Layers 10 and above, plain: the vector of given numbers; a function done to all elements; what every function of two numbers does. -/
namespace Go.Proofs.YtibkbhglcmpeaaaDoor
set_option maxRecDepth 100000
open Go.RowKit Fl
set_option linter.unusedVariables false

end Go.Proofs.YtibkbhglcmpeaaaDoor

/- Layer 10, plain: the elements of two lists that go together; what whole numbers make; what Apply tells. -/
namespace Go.Proofs.YtibkbhglcmpeaaaDoor
set_option maxRecDepth 100000
open Go.RowKit Fl
set_option linter.unusedVariables false

theorem VV.nums_len0 {V : VV} (h : V.cls = 0) : V.nums.length = V.len := by
  cases V <;> first | (simp [VV.nums, VV.len]; done) | (simp [VV.cls] at h)
end Go.Proofs.YtibkbhglcmpeaaaDoor

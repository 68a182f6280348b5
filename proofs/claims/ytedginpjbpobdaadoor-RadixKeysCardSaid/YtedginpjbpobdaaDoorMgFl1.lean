/- Merged: FlA, FlB, FlC, FlD. -/
import Derived.Test.YtedginpjbpobdaaDoorMgVe1
import Derived.Test.YtedginpjbpobdaaDoorMgVa1
/- Package flat, walked: chosen, of numbers, characters and booleans. -/
namespace Go.Proofs.YtedginpjbpobdaaDoor
set_option maxRecDepth 100000
open Go.RowKit
set_option linter.unusedVariables false

end Go.Proofs.YtedginpjbpobdaaDoor

/- Package flat, walked: chosen, of boxes. -/
namespace Go.Proofs.YtedginpjbpobdaaDoor
set_option maxRecDepth 100000
open Go.RowKit
set_option linter.unusedVariables false

end Go.Proofs.YtedginpjbpobdaaDoor

/- Package flat, walked: Blank, clamp, selected, Pick. -/
namespace Go.Proofs.YtedginpjbpobdaaDoor
set_option maxRecDepth 100000
open Go.RowKit Fl
set_option linter.unusedVariables false

def blankA : List Int × VV := ([0], .bits [])

/-- Elements at some places. -/
noncomputable def VV.sel (V : VV) (at_ : List Int) : VV :=
  match V with
  | .bits l => .bits (at_.map (sqI l)) | .chars l => .chars (at_.map (atI l 32)) | .boxes l => .boxes (at_.map (atI l blankA))
  | V => (VV.floats (at_.map (atI V.nums 0))).sq
theorem VV.text_len {V : VV} (h : V.cls = 1) : V.text.length = V.len := by cases V <;> simp_all [VV.cls, VV.text, VV.len]
end Go.Proofs.YtedginpjbpobdaaDoor

/- Package flat, walked: selected, Pick. -/
namespace Go.Proofs.YtedginpjbpobdaaDoor
set_option maxRecDepth 100000
open Go.RowKit Fl
set_option linter.unusedVariables false

theorem VV.cls_cases (V : VV) : V.cls = 0 ∨ V.cls = 1 ∨ V.cls = 2 := by cases V <;> simp [VV.cls]
end Go.Proofs.YtedginpjbpobdaaDoor

/- Layer 15, walked: integers, fit, Copies. -/
import Derived.Test.YtbdhibcbpgjbmaaGreatDoorPiA
import Derived.Test.YtbdhibcbpgjbmaaGreatDoorPiW
import Derived.Test.YtbdhibcbpgjbmaaGreatDoorVeJ
import Derived.Test.YtbdhibcbpgjbmaaGreatDoorVeO
namespace Go.Proofs.YtbdhibcbpgjbmaaGreatDoor
set_option maxRecDepth 100000
open Go.RowKit Fl
set_option linter.unusedVariables false

theorem mem_at {l : List Int} {k : Nat} {x : Int} (h : l[k]? = some x) : x ∈ l := by
 obtain ⟨h1, h2⟩ := List.getElem?_eq_some_iff.1 h
 rw [← h2]; exact List.getElem_mem h1
theorem getD_at {l : List Int} {k : Nat} {x : Int} (h : l[k]? = some x) : l.getD k 0 = x := by rw [List.getD_eq_getElem?_getD, h]; rfl
end Go.Proofs.YtbdhibcbpgjbmaaGreatDoor

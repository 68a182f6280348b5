/- Package value, walked: Rank, Single, Depth. -/
import Derived.Test.YtbdhibcbpgjbmaaGreatDoorVaP
import Derived.Test.YtbdhibcbpgjbmaaGreatDoorVaF
namespace Go.Proofs.YtbdhibcbpgjbmaaGreatDoor
open Go.RowKit Fl
set_option linter.unusedVariables false
set_option maxRecDepth 100000

/-- How deep arrays lie in one another. -/
def depA : Nat → List Int × VV → Int
 | 0, _ => 0
 | d + 1, A => if A.2.cls = 2 then 1 + mx (A.2.boxs.map (depA d)) else if 0 < A.1.length then 1 else 0
theorem depA_bd (d : Nat) : ∀ A, 0 ≤ depA d A ∧ depA d A ≤ d := by
 induction d with
 | zero => intro p; simp [depA]
 | succ d ih =>
  intro A
  simp only [depA]
  split
  ·have h1 := mx_nonneg (A.2.boxs.map (depA d))
   have h2 : mx (A.2.boxs.map (depA d)) ≤ d := mx_le (by omega) (by
    intro x hx
    obtain ⟨y, _, rfl⟩ := List.mem_map.1 hx
    exact (ih _).2)
   omega
  ·split <;> omega

end Go.Proofs.YtbdhibcbpgjbmaaGreatDoor

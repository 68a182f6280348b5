/- Merged: MoM, MoA. -/
import Derived.Test.YtbacchbcanlciaaGreatDoorMgSq1
namespace Go.Proofs.YtbacchbcanlciaaGreatDoor
set_option maxRecDepth 100000
open Go.RowKit Fl
set_option linter.unusedVariables false

theorem zero_of {x : Nat} (hx : Num x) (h : V x = 0) : x = 0 := V_inj hx num_zero (by rw [h, V_zero])

theorem rs_err (z : Nat) : (rs z).2 = 0 ∨ (rs z).2 = 24 := by unfold rs; split <;> simp
theorem V_flagW (b : Bool) : V (flagW b) = if b then (pw 1074 : Int) else 0 := by cases b <;> first | exact V_zero | exact V_one
end Go.Proofs.YtbacchbcanlciaaGreatDoor

namespace Go.Proofs.YtbacchbcanlciaaGreatDoor
set_option maxRecDepth 100000
open Go.RowKit Fl
set_option linter.unusedVariables false

theorem one_cases (f : Int) : f = 1 ∨ f = 2 ∨ f = 3 ∨ f = 4 ∨ f = 5 ∨ f = 6 ∨ f = 7 ∨ f = 8 ∨ ¬ (1 ≤ f ∧ f ≤ 8) := by omega
end Go.Proofs.YtbacchbcanlciaaGreatDoor

/- Merged: MoM. -/
import Derived.Test.YtbfcdpabjailcaaGreatDoorMgSq1
/- Layer 9, plain: what every function does to a number, and to all numbers of a list. -/
namespace Go.Proofs.YtbfcdpabjailcaaGreatDoor
set_option maxRecDepth 100000
open Go.RowKit Fl
set_option linter.unusedVariables false

theorem V_flagW (b : Bool) : V (flagW b) = if b then (pw 1074 : Int) else 0 := by cases b <;> first | exact V_zero | exact V_one
end Go.Proofs.YtbfcdpabjailcaaGreatDoor

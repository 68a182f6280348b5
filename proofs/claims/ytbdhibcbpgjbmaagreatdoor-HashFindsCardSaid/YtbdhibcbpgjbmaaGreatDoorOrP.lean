/- Layer 16, plain: the keys of a vector's elements, how they stand. -/
import Derived.Test.YtbdhibcbpgjbmaaGreatDoorOrN
import Derived.Test.YtbdhibcbpgjbmaaGreatDoorReM
namespace Go.Proofs.YtbdhibcbpgjbmaaGreatDoor
set_option maxRecDepth 100000
open Go.RowKit Fl
set_option linter.unusedVariables false

/-- How two keys stand. -/
def cmpI (x y : Int) : Int := if x < y then -1 else if y < x then 1 else 0
theorem cmpI_lt {x y : Int} (h : x < y) : cmpI x y = -1 := if_pos h
theorem cmpI_gt {x y : Int} (h : y < x) : cmpI x y = 1 := by unfold cmpI; rw [if_neg (by omega), if_pos h]
theorem cmpI_eq {x y : Int} (h : x = y) : cmpI x y = 0 := by unfold cmpI; rw [if_neg (by omega), if_neg (by omega)]
/-- An element's key: a number's value, a character's code point. -/
def keyV (A : VV) (k : Nat) : Int := if A.cls = 0 then V (atI A.nums 0 (k : Int)) else atI A.text 0 (k : Int)
/-- Are two vectors of one class that has an order? -/
def orB (A B : VV) : Bool := decide (A.cls = B.cls ∧ A.cls < 2)
def orC (A : VV) (i : Nat) (B : VV) (k : Nat) : Int := if orB A B then cmpI (keyV A i) (keyV B k) else 0
theorem atI_memN {l : List Nat} {k : Nat} (h : k < l.length) : atI l 0 (k : Int) ∈ l := by rw [atI_nat h]; exact List.getElem_mem _
end Go.Proofs.YtbdhibcbpgjbmaaGreatDoor

/- Merged: SqM, SqA, SqB, SqC, SqD, Walk2, SqE, SqF. -/
import Derived.Deep.RegionHeld3
import Derived.Test.YtkgjemglmgdanaaGreatDoorMgNu1
import Derived.Test.YtkgjemglmgdanaaGreatDoorMgVe1
import Derived.Test.YtkgjemglmgdanaaGreatDoorMgBv1
/- Numbers and the least store that they fit: plain. -/
namespace Go.Proofs.YtkgjemglmgdanaaGreatDoor
open Go.RowKit Fl
set_option linter.unusedVariables false

/-- The whole number of a word that is one. -/
def wnOf (x : Nat) : Int := V x / pw 1074
/-- The least kind of a whole number; of a number. -/
def kindZ (n : Int) : Nat := if n = 0 ∨ n = 1 then 1 else if -128 ≤ n ∧ n ≤ 127 then 2 else 3
open Classical in
noncomputable def kindW (x : Nat) : Nat := if ∃ n, Wh x n then kindZ (wnOf x) else 4
/-- The least kind of numbers. -/
noncomputable def leastW (l : List Nat) : Nat := l.foldl (fun k x => max k (kindW x)) 1
end Go.Proofs.YtkgjemglmgdanaaGreatDoor

/- The reference's kinds of numbers, walked: Least, Fits. -/
namespace Go.Proofs.YtkgjemglmgdanaaGreatDoor
open Go.RowKit Fl
set_option linter.unusedVariables false
set_option maxRecDepth 8000

end Go.Proofs.YtkgjemglmgdanaaGreatDoor

/- Package squeeze, walked: numeric, Common, leastOf, packed, whole. -/
namespace Go.Proofs.YtkgjemglmgdanaaGreatDoor
open Go.RowKit Fl
set_option linter.unusedVariables false
set_option maxRecDepth 8000

/-- A number of the least kind as a truth. -/
def bitW (x : Nat) : Bool := decide (V x = pw 1074)
end Go.Proofs.YtkgjemglmgdanaaGreatDoor

/- Package squeeze, walked: Least, Tight. -/
namespace Go.Proofs.YtkgjemglmgdanaaGreatDoor
open Go.RowKit Fl
set_option linter.unusedVariables false
set_option maxRecDepth 8000

/-- Its numbers are numbers of the document. -/
def VV.nm : VV → Prop
  | .ints l => ∀ z ∈ l, sm z = true | .floats l => ∀ x ∈ l, Num x | _ => True
/-- The least kind of a vector. -/
noncomputable def VV.least (V : VV) : Nat := match V with | .bits _ => 1 | .chars _ => 5 | .boxes _ => 6 | V => leastW V.nums
end Go.Proofs.YtkgjemglmgdanaaGreatDoor

/- Package squeeze, walked: Into, Squeeze, Numbers. -/
namespace Go.Proofs.YtkgjemglmgdanaaGreatDoor
open Go.RowKit Fl
set_option linter.unusedVariables false
set_option maxRecDepth 8000

/-- Does it fit a kind? -/
noncomputable def VV.fit (V : VV) (k : Int) : Bool := decide (V.kind = k) || (decide (V.cls = 0) && decide (1 ≤ k ∧ k ≤ 4) && decide ((V.least : Int) ≤ k))
/-- .. brought there. -/
noncomputable def VV.into (V : VV) (k : Int) : VV :=
  if V.kind = k then V else if V.fit k = false then .none else if k = 1 then .bits (V.nums.map bitW) else if k = 2 then .smalls (V.nums.map wnOf) else if k = 3 then .ints (V.nums.map wnOf) else .floats V.nums
end Go.Proofs.YtkgjemglmgdanaaGreatDoor

/- Walks with local variables: what a store to one leaves. -/
namespace Go.Proofs.YtkgjemglmgdanaaGreatDoor
open Go.RowKit
set_option linter.unusedVariables false
end Go.Proofs.YtkgjemglmgdanaaGreatDoor

/- Package squeeze, walked: Squeeze, Numbers. -/
namespace Go.Proofs.YtkgjemglmgdanaaGreatDoor
open Go.RowKit Fl
set_option linter.unusedVariables false
set_option maxRecDepth 8000

/-- .. in the least kind. -/
noncomputable def VV.sq (V : VV) : VV := V.into (V.least : Int)
end Go.Proofs.YtkgjemglmgdanaaGreatDoor

/- Layer 5: squeezed kinds; the law's awake. -/
namespace Go.Proofs.YtkgjemglmgdanaaGreatDoor
open Go.RowKit Fl
set_option linter.unusedVariables false
set_option maxRecDepth 8000

end Go.Proofs.YtkgjemglmgdanaaGreatDoor

/- Shapes: what the functions of package shape tell, plain. -/
import Derived.Test.YtbdhibcbpgjbmaaGreatDoorShE
namespace Go.Proofs.YtbdhibcbpgjbmaaGreatDoor
set_option maxRecDepth 100000
open Go.RowKit
set_option linter.unusedVariables false

/-- P6.2: the distances, of good shapes. -/
def strG (s : List Int) : List Int := if goodS s = true then strd s else []
/-- P6.3 -/
def atG (s t : List Int) : Int := if 0 ≤ placeR s t then placeR s t else 0
def hasG (s : List Int) (i : Int) : Bool := goodS s && decide (0 ≤ i ∧ i < (prodR s 1048576).1)
def idxG (s : List Int) (i : Int) : List Int := if hasG s i = true then unp s i else []
def moreG (s t : List Int) : Bool := decide (0 ≤ placeR s t) && hasG s (placeR s t + 1)
def nextG (s t : List Int) : List Int := if moreG s t = true then unp s (placeR s t + 1) else []
/-- P6.4 -/
def axisG (s : List Int) (a : Int) : Bool := decide (0 ≤ a ∧ a < (s.length : Int))
def splitG (s : List Int) (a : Int) : Int × Int × Int := if (goodS s && axisG s a) = true then ((prodR (s.take a.toNat) 1048576).1, s.getD a.toNat 0, (prodR (s.drop (a.toNat + 1)) 1048576).1) else (0, 0, 0)
def withG (s : List Int) (a n : Int) : List Int := if (axisG s a && goodS (s.set a.toNat n)) = true then s.set a.toNat n else []
def outSg (s : List Int) (a : Int) : List Int := if axisG s a = true then s.eraseIdx a.toNat else []
end Go.Proofs.YtbdhibcbpgjbmaaGreatDoor

/- Package flat, walked: Join's parts: firstClass, commonKind, fit. -/
import Derived.Test.YtbdhibcbpgjbmaaGreatDoorFlV
namespace Go.Proofs.YtbdhibcbpgjbmaaGreatDoor
set_option maxRecDepth 100000
open Go.RowKit Fl
set_option linter.unusedVariables false

def clsZ : List (Value × VV) → Int
 | [] => 0 | p :: _ => p.2.cls
def comZ (k0 : Int) (Z : List (Value × VV)) : Int := (Z.map fun p => p.2.kind).foldl commonK k0
def lensZ (Z : List (Value × VV)) : Nat := (Z.map fun p => p.2.len).sum

end Go.Proofs.YtbdhibcbpgjbmaaGreatDoor

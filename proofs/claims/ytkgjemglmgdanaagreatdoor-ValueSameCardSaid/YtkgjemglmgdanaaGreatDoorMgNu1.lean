/- Merged: NuM, NuA, NuN, NuB, NuC, NuD, NuE, NuF. -/
import Derived.Laws.FloatArith
import Derived.Test.YtkgjemglmgdanaaGreatDoorRows
import Derived.WalkKit
import Derived.WalkSpells
import Derived.WalkLawsBesides
import Derived.Lib.Hide
import Derived.Laws.BitsAllLaws
import Derived.Laws.Externs
import Derived.IntWalk
import Derived.Deep.Draws
import Derived.LoopTactic
import Derived.Below
/- Floats of 64 bits as whole numbers of units: the value of a word, order, sums, products, whole numbers. Plain mathematics over the model's floats. -/
namespace Go.Proofs.YtkgjemglmgdanaaGreatDoor.Fl
open Ieee
/-- The value of a rung in units of the least place. -/
def U (r : Nat) : Nat := if r < 4503599627370496 then r else (4503599627370496 + r % 4503599627370496) * 2 ^ (r / 4503599627370496 - 1)
/-- The value of a word in units. -/
def V (b : Nat) : Int := if b / 9223372036854775808 % 2 == 1 then -(U (b % 9223372036854775808) : Int) else (U (b % 9223372036854775808) : Int)
def Fnt (b : Nat) : Prop := b < 18446744073709551616 ∧ b % 9223372036854775808 < 9218868437227405312
/-- 2 to the power, not to be worked out. -/
def pw (k : Nat) : Nat := 2 ^ k
/-- A number of the document: finite, and a zero has no sign. -/
def Num (x : Nat) : Prop := Fnt x ∧ (x % 9223372036854775808 = 0 → x = 0)
end Go.Proofs.YtkgjemglmgdanaaGreatDoor.Fl

/- Package num, walked: the floats' own functions. -/
namespace Go.Proofs.YtkgjemglmgdanaaGreatDoor
open Go.RowKit Fl
set_option linter.unusedVariables false
end Go.Proofs.YtkgjemglmgdanaaGreatDoor

/- Floats as whole numbers of units: whole numbers below and above, greater and lesser. Plain mathematics. -/
namespace Go.Proofs.YtkgjemglmgdanaaGreatDoor.Fl
open Ieee
end Go.Proofs.YtkgjemglmgdanaaGreatDoor.Fl

/- Package num, walked: whole numbers. -/
namespace Go.Proofs.YtkgjemglmgdanaaGreatDoor
open Go.RowKit Fl
set_option linter.unusedVariables false
/-- A float that is a whole number. -/
def Wh (x : Nat) (n : Int) : Prop := Fnt x ∧ n.natAbs ≤ 9007199254740992 ∧ V x = n * pw 1074
/-- A whole number of a size that fits. -/
def sm (n : Int) : Bool := decide (-9007199254740992 ≤ n ∧ n ≤ 9007199254740992)
end Go.Proofs.YtkgjemglmgdanaaGreatDoor

/- Package num, walked: sums, products, quotients; sides; whole numbers below and above. -/
namespace Go.Proofs.YtkgjemglmgdanaaGreatDoor
open Go.RowKit Fl
set_option linter.unusedVariables false
end Go.Proofs.YtkgjemglmgdanaaGreatDoor

/- Package num, walked: rests. -/
namespace Go.Proofs.YtkgjemglmgdanaaGreatDoor
open Go.RowKit Fl
set_option linter.unusedVariables false
end Go.Proofs.YtkgjemglmgdanaaGreatDoor

/- Package num, walked: powers. -/
namespace Go.Proofs.YtkgjemglmgdanaaGreatDoor
open Go.RowKit Fl
set_option linter.unusedVariables false
end Go.Proofs.YtkgjemglmgdanaaGreatDoor

/- Layer 3's laws, walked: NumTidy, NumReckons, NumTurns, NumRests, NumPowers. -/
namespace Go.Proofs.YtkgjemglmgdanaaGreatDoor
open Go.RowKit Fl
set_option linter.unusedVariables false
end Go.Proofs.YtkgjemglmgdanaaGreatDoor

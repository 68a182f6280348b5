/- Layer 15's laws: awake. -/
import Derived.Test.YtbdhibcbpgjbmaaGreatDoorPiB
import Derived.Test.YtbdhibcbpgjbmaaGreatDoorPiN
import Derived.Test.YtbdhibcbpgjbmaaGreatDoorBvK
import Derived.Test.YtbdhibcbpgjbmaaGreatDoorSqE
namespace Go.Proofs.YtbdhibcbpgjbmaaGreatDoor
set_option maxRecDepth 100000
open Go.RowKit Fl
set_option linter.unusedVariables false

def Yes15 (w : World) (e : Ending) (w' : World) : Prop := e = .returned (.bool true) ∧ Below w.heap.size w w'
theorem ints_eq {ok ok2 : Nat → Prop} (v1 v2 : Value) (l : List Int) (n : Nat) (w : World) (h1 : Slc w ok v1 n (ints l)) (h2 : Slc w ok2 v2 n (ints l)) (hn : l.length = n) (hm : n ≤ 2000000) :
  Calls Tryz.prog 11 #[v1, v2] w fun e w' => e = .returned (.bool true) ∧ Below w.heap.size w w' := by
 subst hn
 have e : (l == l) = true := by simp
 rw [← e]
 exact ints_calls v1 v2 l l w h1.1.sl h2.1.sl (by unfold maxLen; omega)
end Go.Proofs.YtbdhibcbpgjbmaaGreatDoor

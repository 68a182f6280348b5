/- Merged: PiM, PiN, PiA, PiW, PiB, PiC, PiG. -/
import Derived.Test.YtbdhibcbpgjbmaaGreatDoorMgVe1
import Derived.Test.YtbdhibcbpgjbmaaGreatDoorMgNu1
import Derived.Test.YtbdhibcbpgjbmaaGreatDoorMgSq1
import Derived.Test.YtbdhibcbpgjbmaaGreatDoorMgBv1
import Derived.Test.YtbdhibcbpgjbmaaGreatDoorMgFo1
import Derived.Test.YtbdhibcbpgjbmaaGreatDoorMgVa1
import Derived.Test.YtbdhibcbpgjbmaaGreatDoorMgFl1
/- Layer 15, plain: places that are turned, taken, dropped, copied, and picked along an axis. -/
namespace Go.Proofs.YtbdhibcbpgjbmaaGreatDoor
set_option maxRecDepth 100000
open Go.RowKit Fl
set_option linter.unusedVariables false

end Go.Proofs.YtbdhibcbpgjbmaaGreatDoor

/- Layer 15, plain: the whole numbers of a squeezed vector. -/
namespace Go.Proofs.YtbdhibcbpgjbmaaGreatDoor
set_option maxRecDepth 100000
open Go.RowKit Fl
set_option linter.unusedVariables false

end Go.Proofs.YtbdhibcbpgjbmaaGreatDoor

/- Layer 15, walked: has, size, Rolled, Taken, Dropped, the program's and the reference's. -/
namespace Go.Proofs.YtbdhibcbpgjbmaaGreatDoor
set_option maxRecDepth 100000
open Go.RowKit Fl
set_option linter.unusedVariables false

end Go.Proofs.YtbdhibcbpgjbmaaGreatDoor

/- Layer 15, walked: slices.Repeat of one whole number. -/
namespace Go.Proofs.YtbdhibcbpgjbmaaGreatDoor
set_option maxRecDepth 100000
open Go.RowKit
set_option linter.unusedVariables false

end Go.Proofs.YtbdhibcbpgjbmaaGreatDoor

/- Layer 15, walked: integers, fit, Copies. -/
namespace Go.Proofs.YtbdhibcbpgjbmaaGreatDoor
set_option maxRecDepth 100000
open Go.RowKit Fl
set_option linter.unusedVariables false

end Go.Proofs.YtbdhibcbpgjbmaaGreatDoor

/- Layer 15's laws: awake. -/
namespace Go.Proofs.YtbdhibcbpgjbmaaGreatDoor
set_option maxRecDepth 100000
open Go.RowKit Fl
set_option linter.unusedVariables false

theorem ints_eq {ok ok2 : Nat → Prop} (v1 v2 : Value) (l : List Int) (n : Nat) (w : World) (h1 : Slc w ok v1 n (ints l)) (h2 : Slc w ok2 v2 n (ints l)) (hn : l.length = n) (hm : n ≤ 2000000) :
    Calls Tryz.prog 11 #[v1, v2] w fun e w' => e = .returned (.bool true) ∧ Below w.heap.size w w' := by
  subst hn
  have e : (l == l) = true := by simp
  rw [← e]
  exact ints_calls v1 v2 l l w h1.1.sl h2.1.sl (by unfold maxLen; omega)
end Go.Proofs.YtbdhibcbpgjbmaaGreatDoor

/- Layer 15: a part of a plain array. -/
namespace Go.Proofs.YtbdhibcbpgjbmaaGreatDoor
set_option maxRecDepth 100000
open Go.RowKit Fl
set_option linter.unusedVariables false

theorem len_chk {d : Nat} {p : PA} (h : chk (d + 1) p = 0) : p.l.length ≤ 1048576 := by
  have h1 := (chk_well.1 h).2.2.1
  exact (prodR_len h1).2
end Go.Proofs.YtbdhibcbpgjbmaaGreatDoor

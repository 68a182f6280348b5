/- The reference of layer 8: Again, Turn. -/
import Derived.Test.YtbdhibcbpgjbmaaGreatDoorFlN
namespace Go.Proofs.YtbdhibcbpgjbmaaGreatDoor
set_option maxRecDepth 100000
open Go.RowKit Fl
set_option linter.unusedVariables false

/-- The items again and again; what stands for none, where there are none. -/
def againI (l : List PI) (c : Int) (m : Nat) : List PI := (List.range m).map fun i => if l.length = 0 then blankI c else atI l (blankI c) ((i % l.length : Nat) : Int)
theorem againI_succ (l : List PI) (c : Int) (k : Nat) : againI l c (k + 1) = againI l c k ++ [if l.length = 0 then blankI c else atI l (blankI c) ((k % l.length : Nat) : Int)] := by
 simp [againI, List.range_succ]

end Go.Proofs.YtbdhibcbpgjbmaaGreatDoor

/- Layer 17, walked: the reference's Bits. -/
import Derived.Test.YtbdbpamefkgelaaGreatDoorRxD
import Derived.Test.YtbdbpamefkgelaaGreatDoorBvL
namespace Go.Proofs.YtbdbpamefkgelaaGreatDoor
set_option maxRecDepth 100000
open Go.RowKit Fl
set_option linter.unusedVariables false

/-- Places of truths in order: those like 'down' first. -/
def bsL (l : List Bool) (down : Bool) : List Nat := (List.range l.length).filter (fun j => sq l j == down) ++ (List.range l.length).filter (fun j => !(sq l j == down))
theorem onesTo_zL (F : Nat → Bool) (k : Nat) : onesTo F k = zL ((List.range k).filter F) := rfl
theorem bsL_zL (l : List Bool) (down : Bool) : zL (bsL l down) = onesTo (fun j => sq l j == down) l.length ++ onesTo (fun j => !(sq l j == down)) l.length := by
  unfold bsL; rw [zL_app]; rfl
theorem bsL_perm (l : List Bool) (down : Bool) : (bsL l down).Perm (List.range l.length) := by
  unfold bsL; exact List.filter_append_perm _ _
theorem bsL_len (l : List Bool) (down : Bool) : (bsL l down).length = l.length := by rw [(bsL_perm l down).length_eq, List.length_range]
theorem ints_nilLen (F : Nat → Bool) : ints (onesTo F 0) = [] := rfl
end Go.Proofs.YtbdbpamefkgelaaGreatDoor

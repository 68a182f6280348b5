/- Package value, walked: Num, Char, Box, List. -/
import Derived.Test.YtbdhibcbpgjbmaaGreatDoorVaW
namespace Go.Proofs.YtbdhibcbpgjbmaaGreatDoor
open Go.RowKit Fl
set_option linter.unusedVariables false
set_option maxRecDepth 100000

theorem alone_new2 {w w2 : World} {u : Value} {V : VV} (b : Nat) (hb : w.heap.size ≤ b) (hv : IsV w2 (V.nb (fun c => b < c)) u V) (hB : Below w.heap.size w w2) :
  IsArr ((w2.setCell ⟨b, 0, none⟩ (.slice none 0 0)).setCell ⟨b, 1, none⟩ u) (fun c => w.heap.size ≤ c) (.slice none 0 0) u ([], V) ∧ Below w.heap.size w ((w2.setCell ⟨b, 0, none⟩ (.slice none 0 0)).setCell ⟨b, 1, none⟩ u) :=
 ⟨IsArr.keep (ok := fun c => b < c) ((Kept.setCell _ _ _ (by simp)).trans (Kept.setCell _ _ _ (by simp))) (fun c _ (h : b < c) => by omega) ⟨Slc.nil _ _, hv⟩, (hB.setCell hb _).setCell hb _⟩

end Go.Proofs.YtbdhibcbpgjbmaaGreatDoor

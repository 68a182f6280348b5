/- append of any slice to a row of one's own; slices.Grow, slices.Concat of lists of whole numbers. -/
import Derived.Test.YtkgjemglmgdanaaGreatDoorMgBv1
import Derived.Lib.AppendZerosOnto
namespace Go.Proofs.YtkgjemglmgdanaaGreatDoor
open Go.RowKit
set_option linter.unusedVariables false
set_option maxRecDepth 8000

section
variable {P : Program}
end
/-- v is a slice of slices, those of L. -/
def RowsC (w : World) (ok : Nat → Prop) (v : Value) (L : List (List Int)) : Prop :=
  ∃ ao cap, v = .slice ao L.length cap ∧ ∀ i (h : i < L.length), ∃ b off u, ao = some ⟨b, off, none⟩ ∧ w.cell? ⟨b, off + i, none⟩ = some u ∧ Slc w ok u L[i].length (ints L[i])
theorem RowsC.below {w w' : World} {ok : Nat → Prop} {v : Value} {L : List (List Int)} (h : RowsC w ok v L) (hb : Below w.heap.size w w') : RowsC w' ok v L := by
  obtain ⟨ao, cap, rfl, hc⟩ := h
  refine ⟨ao, cap, rfl, fun i hi => ?_⟩
  obtain ⟨b, off, u, e, h1, h2⟩ := hc i hi
  exact ⟨b, off, u, e, keep_below hb _ _ h1, h2.below hb⟩
end Go.Proofs.YtkgjemglmgdanaaGreatDoor

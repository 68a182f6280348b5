/-
  DERIVED. GIVEN WITH THE SEED: THE CARDS: each row of YtbfcdpabjailcaaGreatDoorRows.lean that lists a variable, with what it lists TIED to the program's text (the seventh form; the later family's looks); each row that meets fmt, with fmt's text TOLD by the authors' own Lean function (tested against real Go, not proved from fmt's source: count such statements apart). THE CARD IS WHAT COUNTS. Prove the row's statement (the work); the ties are given (YtbfcdpabjailcaaGreatDoorTie.lean); close each card by the builder's one call (the guide's Derived/Test/ToyasCard.lean, 'card_holds'). Laid BY PROGRAM, IN A SANDBOX (cutbox-door.mjs). By AI agents, Wed Nov 11 2026. No macro, syntax, notation, axiom, sorry.
-/
import Derived.Test.YtbfcdpabjailcaaGreatDoorRows
import GoSem.ClaimSeven
namespace Go.Proofs.YtbfcdpabjailcaaGreatDoor
namespace Rows

/-- THE TIED CARD OF 'rebuslaw20.ReshapeParts'. -/
def reshapePartsCard : Claim7 := { stood := { row := reshapePartsRow, standIns := [], harness := (true, "e315b4849076469f3091dc9d1d7ed6ac156d5a8e3d89a31ab2314802fc751722"), looks := true }, kinds := [], alts := [], laidByText := true, laidKinds := [.data], laidTests := true, laidLooks := .later }
def ReshapePartsCardSaid : Prop := Claim7.holds Tryz.pinned (.plain (OpenSpec.ofChange reshapePartsSpec)) reshapePartsCard

/-- THE SECOND FORM's CARD OF 'rebuslaw20.ReshapeParts'. -/
def reshapePartsUptoCard : Claim7 := { stood := { row := reshapePartsUptoRow, standIns := [], harness := (true, "e315b4849076469f3091dc9d1d7ed6ac156d5a8e3d89a31ab2314802fc751722"), looks := true }, kinds := [], alts := [], laidByText := true, laidKinds := [.data], laidTests := true, laidLooks := .later }
def ReshapePartsUptoCardSaid : Prop := Claim7.holds Tryz.pinned (.plain (OpenSpec.upto reshapePartsSpec)) reshapePartsUptoCard
end Rows
end Go.Proofs.YtbfcdpabjailcaaGreatDoor

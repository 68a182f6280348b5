/-
  DERIVED. GIVEN WITH THE SEED: THE CARDS: each row of YtpcighgflolojaaGreatDoorRows.lean that lists a variable, with what it lists TIED to the program's text (the seventh form; the later family's looks); each row that meets fmt, with fmt's text TOLD by the authors' own Lean function (tested against real Go, not proved from fmt's source: count such statements apart). THE CARD IS WHAT COUNTS. Prove the row's statement (the work); the ties are given (YtpcighgflolojaaGreatDoorTie.lean); close each card by the builder's one call (the guide's Derived/Test/ToyasCard.lean, 'card_holds'). Laid BY PROGRAM, IN A SANDBOX (cutbox-door.mjs). By AI agents, Wed Nov 11 2026. No macro, syntax, notation, axiom, sorry.
-/
import Derived.Test.YtpcighgflolojaaGreatDoorRows
import GoSem.ClaimSeven
namespace Go.Proofs.YtpcighgflolojaaGreatDoor
namespace Rows

/-- THE TIED CARD OF 'rebuslaw15.PickAlong'. -/
def pickAlongCard : Claim7 := { stood := { row := pickAlongRow, standIns := [], harness := (true, "19de233b93507b80dc404639e029e51f0ce3037048db96022b6099b947da35c6"), looks := true }, kinds := [], alts := [], laidByText := true, laidKinds := [.data], laidTests := true, laidLooks := .later }
def PickAlongCardSaid : Prop := Claim7.holds Tryz.pinned (.plain (OpenSpec.ofChange pickAlongSpec)) pickAlongCard

/-- THE SECOND FORM's CARD OF 'rebuslaw15.PickAlong'. -/
def pickAlongUptoCard : Claim7 := { stood := { row := pickAlongUptoRow, standIns := [], harness := (true, "19de233b93507b80dc404639e029e51f0ce3037048db96022b6099b947da35c6"), looks := true }, kinds := [], alts := [], laidByText := true, laidKinds := [.data], laidTests := true, laidLooks := .later }
def PickAlongUptoCardSaid : Prop := Claim7.holds Tryz.pinned (.plain (OpenSpec.upto pickAlongSpec)) pickAlongUptoCard
end Rows
end Go.Proofs.YtpcighgflolojaaGreatDoor

/-
  DERIVED. GIVEN WITH THE SEED: THE CARDS: each row of YtohkohnihaockaaGreatDoorRows.lean that lists a variable, with what it lists TIED to the program's text (the seventh form; the later family's looks); each row that meets fmt, with fmt's text TOLD by the authors' own Lean function (tested against real Go, not proved from fmt's source: count such statements apart). THE CARD IS WHAT COUNTS. Prove the row's statement (the work); the ties are given (YtohkohnihaockaaGreatDoorTie.lean); close each card by the builder's one call (the guide's Derived/Test/ToyasCard.lean, 'card_holds'). Laid BY PROGRAM, IN A SANDBOX (cutbox-door.mjs). By AI agents, Wed Nov 11 2026. No macro, syntax, notation, axiom, sorry.
-/
import Derived.Test.YtohkohnihaockaaGreatDoorRows
import GoSem.ClaimSeven
namespace Go.Proofs.YtohkohnihaockaaGreatDoor
namespace Rows

/-- THE TIED CARD OF 'rebuslaw08.FlatJoins'. -/
def flatJoinsCard : Claim7 := { stood := { row := flatJoinsRow, standIns := [], harness := (true, "9305a65ca32c2f89932b453dfffc9f82d5bc781f883d749e0f7b0abf78c5b5a6"), looks := true }, kinds := [], alts := [], laidByText := true, laidKinds := [.data], laidTests := true, laidLooks := .later }
def FlatJoinsCardSaid : Prop := Claim7.holds Tryz.pinned (.plain (OpenSpec.ofChange flatJoinsSpec)) flatJoinsCard

/-- THE SECOND FORM's CARD OF 'rebuslaw08.FlatJoins'. -/
def flatJoinsUptoCard : Claim7 := { stood := { row := flatJoinsUptoRow, standIns := [], harness := (true, "9305a65ca32c2f89932b453dfffc9f82d5bc781f883d749e0f7b0abf78c5b5a6"), looks := true }, kinds := [], alts := [], laidByText := true, laidKinds := [.data], laidTests := true, laidLooks := .later }
def FlatJoinsUptoCardSaid : Prop := Claim7.holds Tryz.pinned (.plain (OpenSpec.upto flatJoinsSpec)) flatJoinsUptoCard
end Rows
end Go.Proofs.YtohkohnihaockaaGreatDoor

/-
  DERIVED. GIVEN WITH THE SEED: THE CARDS: each row of YtkgjemglmgdanaaGreatDoorRows.lean that lists a variable, with what it lists TIED to the program's text (the seventh form; the later family's looks); each row that meets fmt, with fmt's text TOLD by the authors' own Lean function (tested against real Go, not proved from fmt's source: count such statements apart). THE CARD IS WHAT COUNTS. Prove the row's statement (the work); the ties are given (YtkgjemglmgdanaaGreatDoorTie.lean); close each card by the builder's one call (the guide's Derived/Test/ToyasCard.lean, 'card_holds'). Laid BY PROGRAM, IN A SANDBOX (cutbox-door.mjs). By AI agents, Wed Nov 11 2026. No macro, syntax, notation, axiom, sorry.
-/
import Derived.Test.YtkgjemglmgdanaaGreatDoorRows
import GoSem.ClaimSeven
namespace Go.Proofs.YtkgjemglmgdanaaGreatDoor
namespace Rows

/-- THE TIED CARD OF 'rebuslaw07.ValueSame'. -/
def valueSameCard : Claim7 := { stood := { row := valueSameRow, standIns := [], harness := (true, "0ae9e3dc7872082bb9ba04306923ade0a4905f36852bfb209475c58b04383273"), looks := true }, kinds := [], alts := [], laidByText := true, laidKinds := [.data], laidTests := true, laidLooks := .later }
def ValueSameCardSaid : Prop := Claim7.holds Tryz.pinned (.plain (OpenSpec.ofChange valueSameSpec)) valueSameCard

/-- THE TIED CARD OF 'rebuslaw07.ValueAlone'. -/
def valueAloneCard : Claim7 := { stood := { row := valueAloneRow, standIns := [], harness := (true, "0ae9e3dc7872082bb9ba04306923ade0a4905f36852bfb209475c58b04383273"), looks := true }, kinds := [], alts := [], laidByText := true, laidKinds := [.data], laidTests := true, laidLooks := .later }
def ValueAloneCardSaid : Prop := Claim7.holds Tryz.pinned (.plain (OpenSpec.ofChange valueAloneSpec)) valueAloneCard

/-- THE SECOND FORM's CARD OF 'rebuslaw07.ValueSame'. -/
def valueSameUptoCard : Claim7 := { stood := { row := valueSameUptoRow, standIns := [], harness := (true, "0ae9e3dc7872082bb9ba04306923ade0a4905f36852bfb209475c58b04383273"), looks := true }, kinds := [], alts := [], laidByText := true, laidKinds := [.data], laidTests := true, laidLooks := .later }
def ValueSameUptoCardSaid : Prop := Claim7.holds Tryz.pinned (.plain (OpenSpec.upto valueSameSpec)) valueSameUptoCard

/-- THE SECOND FORM's CARD OF 'rebuslaw07.ValueAlone'. -/
def valueAloneUptoCard : Claim7 := { stood := { row := valueAloneUptoRow, standIns := [], harness := (true, "0ae9e3dc7872082bb9ba04306923ade0a4905f36852bfb209475c58b04383273"), looks := true }, kinds := [], alts := [], laidByText := true, laidKinds := [.data], laidTests := true, laidLooks := .later }
def ValueAloneUptoCardSaid : Prop := Claim7.holds Tryz.pinned (.plain (OpenSpec.upto valueAloneSpec)) valueAloneUptoCard
end Rows
end Go.Proofs.YtkgjemglmgdanaaGreatDoor

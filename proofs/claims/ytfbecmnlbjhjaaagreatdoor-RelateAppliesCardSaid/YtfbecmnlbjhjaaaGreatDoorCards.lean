/-
  DERIVED. GIVEN WITH THE SEED: THE CARDS: each row of YtfbecmnlbjhjaaaGreatDoorRows.lean that lists a variable, with what it lists TIED to the program's text (the seventh form; the later family's looks); each row that meets fmt, with fmt's text TOLD by the authors' own Lean function (tested against real Go, not proved from fmt's source: count such statements apart). THE CARD IS WHAT COUNTS. Prove the row's statement (the work); the ties are given (YtfbecmnlbjhjaaaGreatDoorTie.lean); close each card by the builder's one call (the guide's Derived/Test/ToyasCard.lean, 'card_holds'). Laid BY PROGRAM, IN A SANDBOX (cutbox-door.mjs). By AI agents, Wed Nov 11 2026. No macro, syntax, notation, axiom, sorry.
-/
import Derived.Test.YtfbecmnlbjhjaaaGreatDoorRows
import GoSem.ClaimSeven
namespace Go.Proofs.YtfbecmnlbjhjaaaGreatDoor
namespace Rows

/-- THE TIED CARD OF 'rebuslaw11.RelateApplies'. -/
def relateAppliesCard : Claim7 := { stood := { row := relateAppliesRow, standIns := [], harness := (true, "8313e43228f5c077b15bbd225902afd1bc451dfd91d5f42daf086edaffc54832"), looks := true }, kinds := [], alts := [], laidByText := true, laidKinds := [.data], laidTests := true, laidLooks := .later }
def RelateAppliesCardSaid : Prop := Claim7.holds Tryz.pinned (.plain (OpenSpec.ofChange relateAppliesSpec)) relateAppliesCard

/-- THE SECOND FORM's CARD OF 'rebuslaw11.RelateApplies'. -/
def relateAppliesUptoCard : Claim7 := { stood := { row := relateAppliesUptoRow, standIns := [], harness := (true, "8313e43228f5c077b15bbd225902afd1bc451dfd91d5f42daf086edaffc54832"), looks := true }, kinds := [], alts := [], laidByText := true, laidKinds := [.data], laidTests := true, laidLooks := .later }
def RelateAppliesUptoCardSaid : Prop := Claim7.holds Tryz.pinned (.plain (OpenSpec.upto relateAppliesSpec)) relateAppliesUptoCard
end Rows
end Go.Proofs.YtfbecmnlbjhjaaaGreatDoor

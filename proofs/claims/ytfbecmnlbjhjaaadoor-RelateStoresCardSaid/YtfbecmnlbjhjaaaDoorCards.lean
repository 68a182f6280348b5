/-
  DERIVED. GIVEN WITH THE SEED: THE CARDS: each row of YtfbecmnlbjhjaaaDoorRows.lean that lists a variable, with what it lists TIED to the program's text (the seventh form; the later family's looks); each row that meets fmt, with fmt's text TOLD by the authors' own Lean function (tested against real Go, not proved from fmt's source: count such statements apart). THE CARD IS WHAT COUNTS. Prove the row's statement (the work); the ties are given (YtfbecmnlbjhjaaaDoorTie.lean); close each card by the builder's one call (the guide's Derived/Test/ToyasCard.lean, 'card_holds'). Laid BY PROGRAM, IN A SANDBOX (cutbox-door.mjs). By AI agents, Wed Nov 11 2026. No macro, syntax, notation, axiom, sorry.
-/
import Derived.Test.YtfbecmnlbjhjaaaDoorRows
import GoSem.ClaimSeven
namespace Go.Proofs.YtfbecmnlbjhjaaaDoor
namespace Rows

/-- THE TIED CARD OF 'rebuslaw11.RelateOne'. -/
def relateOneCard : Claim7 := { stood := { row := relateOneRow, standIns := [], harness := (true, "e773bc1d50994450861a73ec77d85b6afbd67de5a0c58e0a8a1c62b4b2da3b2c"), looks := true }, kinds := [], alts := [], laidByText := true, laidKinds := [.data], laidTests := true, laidLooks := .later }
def RelateOneCardSaid : Prop := Claim7.holds Tryd.pinned (.plain (OpenSpec.ofChange relateOneSpec)) relateOneCard

/-- THE TIED CARD OF 'rebuslaw11.RelateStores'. -/
def relateStoresCard : Claim7 := { stood := { row := relateStoresRow, standIns := [], harness := (true, "e773bc1d50994450861a73ec77d85b6afbd67de5a0c58e0a8a1c62b4b2da3b2c"), looks := true }, kinds := [], alts := [], laidByText := true, laidKinds := [.data], laidTests := true, laidLooks := .later }
def RelateStoresCardSaid : Prop := Claim7.holds Tryd.pinned (.plain (OpenSpec.ofChange relateStoresSpec)) relateStoresCard

/-- THE SECOND FORM's CARD OF 'rebuslaw11.RelateOne'. -/
def relateOneUptoCard : Claim7 := { stood := { row := relateOneUptoRow, standIns := [], harness := (true, "e773bc1d50994450861a73ec77d85b6afbd67de5a0c58e0a8a1c62b4b2da3b2c"), looks := true }, kinds := [], alts := [], laidByText := true, laidKinds := [.data], laidTests := true, laidLooks := .later }
def RelateOneUptoCardSaid : Prop := Claim7.holds Tryd.pinned (.plain (OpenSpec.upto relateOneSpec)) relateOneUptoCard

/-- THE SECOND FORM's CARD OF 'rebuslaw11.RelateStores'. -/
def relateStoresUptoCard : Claim7 := { stood := { row := relateStoresUptoRow, standIns := [], harness := (true, "e773bc1d50994450861a73ec77d85b6afbd67de5a0c58e0a8a1c62b4b2da3b2c"), looks := true }, kinds := [], alts := [], laidByText := true, laidKinds := [.data], laidTests := true, laidLooks := .later }
def RelateStoresUptoCardSaid : Prop := Claim7.holds Tryd.pinned (.plain (OpenSpec.upto relateStoresSpec)) relateStoresUptoCard
end Rows
end Go.Proofs.YtfbecmnlbjhjaaaDoor

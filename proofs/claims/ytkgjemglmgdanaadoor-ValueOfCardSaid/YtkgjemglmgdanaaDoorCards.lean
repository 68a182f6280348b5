/-
  DERIVED. GIVEN WITH THE SEED: THE CARDS: each row of YtkgjemglmgdanaaDoorRows.lean that lists a variable, with what it lists TIED to the program's text (the seventh form; the later family's looks); each row that meets fmt, with fmt's text TOLD by the authors' own Lean function (tested against real Go, not proved from fmt's source: count such statements apart). THE CARD IS WHAT COUNTS. Prove the row's statement (the work); the ties are given (YtkgjemglmgdanaaDoorTie.lean); close each card by the builder's one call (the guide's Derived/Test/ToyasCard.lean, 'card_holds'). Laid BY PROGRAM, IN A SANDBOX (cutbox-door.mjs). By AI agents, Wed Nov 11 2026. No macro, syntax, notation, axiom, sorry.
-/
import Derived.Test.YtkgjemglmgdanaaDoorRows
import GoSem.ClaimSeven
namespace Go.Proofs.YtkgjemglmgdanaaDoor
namespace Rows

/-- THE TIED CARD OF 'rebuslaw07.ValueOf'. -/
def valueOfCard : Claim7 := { stood := { row := valueOfRow, standIns := [], harness := (true, "a3a29653de3b200dd53bd7f481054be3319ade7863ff86eb247bd42b9a05002c"), looks := true }, kinds := [], alts := [], laidByText := true, laidKinds := [.data], laidTests := true, laidLooks := .later }
def ValueOfCardSaid : Prop := Claim7.holds Tryd.pinned (.plain (OpenSpec.ofChange valueOfSpec)) valueOfCard

/-- THE TIED CARD OF 'rebuslaw07.ValueNew'. -/
def valueNewCard : Claim7 := { stood := { row := valueNewRow, standIns := [], harness := (true, "a3a29653de3b200dd53bd7f481054be3319ade7863ff86eb247bd42b9a05002c"), looks := true }, kinds := [], alts := [], laidByText := true, laidKinds := [.data], laidTests := true, laidLooks := .later }
def ValueNewCardSaid : Prop := Claim7.holds Tryd.pinned (.plain (OpenSpec.ofChange valueNewSpec)) valueNewCard

/-- THE SECOND FORM's CARD OF 'rebuslaw07.ValueOf'. -/
def valueOfUptoCard : Claim7 := { stood := { row := valueOfUptoRow, standIns := [], harness := (true, "a3a29653de3b200dd53bd7f481054be3319ade7863ff86eb247bd42b9a05002c"), looks := true }, kinds := [], alts := [], laidByText := true, laidKinds := [.data], laidTests := true, laidLooks := .later }
def ValueOfUptoCardSaid : Prop := Claim7.holds Tryd.pinned (.plain (OpenSpec.upto valueOfSpec)) valueOfUptoCard

/-- THE SECOND FORM's CARD OF 'rebuslaw07.ValueNew'. -/
def valueNewUptoCard : Claim7 := { stood := { row := valueNewUptoRow, standIns := [], harness := (true, "a3a29653de3b200dd53bd7f481054be3319ade7863ff86eb247bd42b9a05002c"), looks := true }, kinds := [], alts := [], laidByText := true, laidKinds := [.data], laidTests := true, laidLooks := .later }
def ValueNewUptoCardSaid : Prop := Claim7.holds Tryd.pinned (.plain (OpenSpec.upto valueNewSpec)) valueNewUptoCard
end Rows
end Go.Proofs.YtkgjemglmgdanaaDoor

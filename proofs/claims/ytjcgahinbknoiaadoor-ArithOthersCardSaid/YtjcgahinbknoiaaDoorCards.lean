/-
  DERIVED. GIVEN WITH THE SEED: THE CARDS: each row of YtjcgahinbknoiaaDoorRows.lean that lists a variable, with what it lists TIED to the program's text (the seventh form; the later family's looks); each row that meets fmt, with fmt's text TOLD by the authors' own Lean function (tested against real Go, not proved from fmt's source: count such statements apart). THE CARD IS WHAT COUNTS. Prove the row's statement (the work); the ties are given (YtjcgahinbknoiaaDoorTie.lean); close each card by the builder's one call (the guide's Derived/Test/ToyasCard.lean, 'card_holds'). Laid BY PROGRAM, IN A SANDBOX (cutbox-door.mjs). By AI agents, Wed Nov 11 2026. No macro, syntax, notation, axiom, sorry.
-/
import Derived.Test.YtjcgahinbknoiaaDoorRows
import GoSem.ClaimSeven
namespace Go.Proofs.YtjcgahinbknoiaaDoor
namespace Rows

/-- THE TIED CARD OF 'rebuslaw10.ArithOne'. -/
def arithOneCard : Claim7 := { stood := { row := arithOneRow, standIns := [], harness := (true, "5d7d6477debc86a1d2105538718645fe59f4cd365342e858ea7ba20ac9fb4ddd"), looks := true }, kinds := [], alts := [], laidByText := true, laidKinds := [.data], laidTests := true, laidLooks := .later }
def ArithOneCardSaid : Prop := Claim7.holds Tryd.pinned (.plain (OpenSpec.ofChange arithOneSpec)) arithOneCard

/-- THE TIED CARD OF 'rebuslaw10.ArithApplies'. -/
def arithAppliesCard : Claim7 := { stood := { row := arithAppliesRow, standIns := [], harness := (true, "5d7d6477debc86a1d2105538718645fe59f4cd365342e858ea7ba20ac9fb4ddd"), looks := true }, kinds := [], alts := [], laidByText := true, laidKinds := [.data], laidTests := true, laidLooks := .later }
def ArithAppliesCardSaid : Prop := Claim7.holds Tryd.pinned (.plain (OpenSpec.ofChange arithAppliesSpec)) arithAppliesCard

/-- THE TIED CARD OF 'rebuslaw10.ArithOthers'. -/
def arithOthersCard : Claim7 := { stood := { row := arithOthersRow, standIns := [], harness := (true, "5d7d6477debc86a1d2105538718645fe59f4cd365342e858ea7ba20ac9fb4ddd"), looks := true }, kinds := [], alts := [], laidByText := true, laidKinds := [.data], laidTests := true, laidLooks := .later }
def ArithOthersCardSaid : Prop := Claim7.holds Tryd.pinned (.plain (OpenSpec.ofChange arithOthersSpec)) arithOthersCard

/-- THE SECOND FORM's CARD OF 'rebuslaw10.ArithOne'. -/
def arithOneUptoCard : Claim7 := { stood := { row := arithOneUptoRow, standIns := [], harness := (true, "5d7d6477debc86a1d2105538718645fe59f4cd365342e858ea7ba20ac9fb4ddd"), looks := true }, kinds := [], alts := [], laidByText := true, laidKinds := [.data], laidTests := true, laidLooks := .later }
def ArithOneUptoCardSaid : Prop := Claim7.holds Tryd.pinned (.plain (OpenSpec.upto arithOneSpec)) arithOneUptoCard

/-- THE SECOND FORM's CARD OF 'rebuslaw10.ArithApplies'. -/
def arithAppliesUptoCard : Claim7 := { stood := { row := arithAppliesUptoRow, standIns := [], harness := (true, "5d7d6477debc86a1d2105538718645fe59f4cd365342e858ea7ba20ac9fb4ddd"), looks := true }, kinds := [], alts := [], laidByText := true, laidKinds := [.data], laidTests := true, laidLooks := .later }
def ArithAppliesUptoCardSaid : Prop := Claim7.holds Tryd.pinned (.plain (OpenSpec.upto arithAppliesSpec)) arithAppliesUptoCard

/-- THE SECOND FORM's CARD OF 'rebuslaw10.ArithOthers'. -/
def arithOthersUptoCard : Claim7 := { stood := { row := arithOthersUptoRow, standIns := [], harness := (true, "5d7d6477debc86a1d2105538718645fe59f4cd365342e858ea7ba20ac9fb4ddd"), looks := true }, kinds := [], alts := [], laidByText := true, laidKinds := [.data], laidTests := true, laidLooks := .later }
def ArithOthersUptoCardSaid : Prop := Claim7.holds Tryd.pinned (.plain (OpenSpec.upto arithOthersSpec)) arithOthersUptoCard
end Rows
end Go.Proofs.YtjcgahinbknoiaaDoor

/-
  DERIVED. GIVEN WITH THE SEED: THE CARDS: each row of YtlgaelndboeapaaDoorRows.lean that lists a variable, with what it lists TIED to the program's text (the seventh form; the later family's looks); each row that meets fmt, with fmt's text TOLD by the authors' own Lean function (tested against real Go, not proved from fmt's source: count such statements apart). THE CARD IS WHAT COUNTS. Prove the row's statement (the work); the ties are given (YtlgaelndboeapaaDoorTie.lean); close each card by the builder's one call (the guide's Derived/Test/ToyasCard.lean, 'card_holds'). Laid BY PROGRAM, IN A SANDBOX (cutbox-door.mjs). By AI agents, Wed Nov 11 2026. No macro, syntax, notation, axiom, sorry.
-/
import Derived.Test.YtlgaelndboeapaaDoorRows
import GoSem.ClaimSeven
namespace Go.Proofs.YtlgaelndboeapaaDoor
namespace Rows

/-- THE TIED CARD OF 'rebuslaw04.VecBits'. -/
def vecBitsCard : Claim7 := { stood := { row := vecBitsRow, standIns := [], harness := (true, "c5df86948c2fe39d6fdab8dcb6fe32b3bbc3e5da6617489194e98c4538efb83c"), looks := true }, kinds := [], alts := [], laidByText := true, laidKinds := [.data], laidTests := true, laidLooks := .later }
def VecBitsCardSaid : Prop := Claim7.holds Tryd.pinned (.plain (OpenSpec.ofChange vecBitsSpec)) vecBitsCard

/-- THE TIED CARD OF 'rebuslaw04.VecNumbers'. -/
def vecNumbersCard : Claim7 := { stood := { row := vecNumbersRow, standIns := [], harness := (true, "c5df86948c2fe39d6fdab8dcb6fe32b3bbc3e5da6617489194e98c4538efb83c"), looks := true }, kinds := [], alts := [], laidByText := true, laidKinds := [.data], laidTests := true, laidLooks := .later }
def VecNumbersCardSaid : Prop := Claim7.holds Tryd.pinned (.plain (OpenSpec.ofChange vecNumbersSpec)) vecNumbersCard

/-- THE TIED CARD OF 'rebuslaw04.VecChars'. -/
def vecCharsCard : Claim7 := { stood := { row := vecCharsRow, standIns := [], harness := (true, "c5df86948c2fe39d6fdab8dcb6fe32b3bbc3e5da6617489194e98c4538efb83c"), looks := true }, kinds := [], alts := [], laidByText := true, laidKinds := [.data], laidTests := true, laidLooks := .later }
def VecCharsCardSaid : Prop := Claim7.holds Tryd.pinned (.plain (OpenSpec.ofChange vecCharsSpec)) vecCharsCard

/-- THE TIED CARD OF 'rebuslaw04.VecBoxes'. -/
def vecBoxesCard : Claim7 := { stood := { row := vecBoxesRow, standIns := [], harness := (true, "c5df86948c2fe39d6fdab8dcb6fe32b3bbc3e5da6617489194e98c4538efb83c"), looks := true }, kinds := [], alts := [], laidByText := true, laidKinds := [.data], laidTests := true, laidLooks := .later }
def VecBoxesCardSaid : Prop := Claim7.holds Tryd.pinned (.plain (OpenSpec.ofChange vecBoxesSpec)) vecBoxesCard

/-- THE TIED CARD OF 'rebuslaw04.VecApart'. -/
def vecApartCard : Claim7 := { stood := { row := vecApartRow, standIns := [], harness := (true, "c5df86948c2fe39d6fdab8dcb6fe32b3bbc3e5da6617489194e98c4538efb83c"), looks := true }, kinds := [], alts := [], laidByText := true, laidKinds := [.data], laidTests := true, laidLooks := .later }
def VecApartCardSaid : Prop := Claim7.holds Tryd.pinned (.plain (OpenSpec.ofChange vecApartSpec)) vecApartCard

/-- THE SECOND FORM's CARD OF 'rebuslaw04.VecBits'. -/
def vecBitsUptoCard : Claim7 := { stood := { row := vecBitsUptoRow, standIns := [], harness := (true, "c5df86948c2fe39d6fdab8dcb6fe32b3bbc3e5da6617489194e98c4538efb83c"), looks := true }, kinds := [], alts := [], laidByText := true, laidKinds := [.data], laidTests := true, laidLooks := .later }
def VecBitsUptoCardSaid : Prop := Claim7.holds Tryd.pinned (.plain (OpenSpec.upto vecBitsSpec)) vecBitsUptoCard

/-- THE SECOND FORM's CARD OF 'rebuslaw04.VecNumbers'. -/
def vecNumbersUptoCard : Claim7 := { stood := { row := vecNumbersUptoRow, standIns := [], harness := (true, "c5df86948c2fe39d6fdab8dcb6fe32b3bbc3e5da6617489194e98c4538efb83c"), looks := true }, kinds := [], alts := [], laidByText := true, laidKinds := [.data], laidTests := true, laidLooks := .later }
def VecNumbersUptoCardSaid : Prop := Claim7.holds Tryd.pinned (.plain (OpenSpec.upto vecNumbersSpec)) vecNumbersUptoCard

/-- THE SECOND FORM's CARD OF 'rebuslaw04.VecChars'. -/
def vecCharsUptoCard : Claim7 := { stood := { row := vecCharsUptoRow, standIns := [], harness := (true, "c5df86948c2fe39d6fdab8dcb6fe32b3bbc3e5da6617489194e98c4538efb83c"), looks := true }, kinds := [], alts := [], laidByText := true, laidKinds := [.data], laidTests := true, laidLooks := .later }
def VecCharsUptoCardSaid : Prop := Claim7.holds Tryd.pinned (.plain (OpenSpec.upto vecCharsSpec)) vecCharsUptoCard

/-- THE SECOND FORM's CARD OF 'rebuslaw04.VecBoxes'. -/
def vecBoxesUptoCard : Claim7 := { stood := { row := vecBoxesUptoRow, standIns := [], harness := (true, "c5df86948c2fe39d6fdab8dcb6fe32b3bbc3e5da6617489194e98c4538efb83c"), looks := true }, kinds := [], alts := [], laidByText := true, laidKinds := [.data], laidTests := true, laidLooks := .later }
def VecBoxesUptoCardSaid : Prop := Claim7.holds Tryd.pinned (.plain (OpenSpec.upto vecBoxesSpec)) vecBoxesUptoCard

/-- THE SECOND FORM's CARD OF 'rebuslaw04.VecApart'. -/
def vecApartUptoCard : Claim7 := { stood := { row := vecApartUptoRow, standIns := [], harness := (true, "c5df86948c2fe39d6fdab8dcb6fe32b3bbc3e5da6617489194e98c4538efb83c"), looks := true }, kinds := [], alts := [], laidByText := true, laidKinds := [.data], laidTests := true, laidLooks := .later }
def VecApartUptoCardSaid : Prop := Claim7.holds Tryd.pinned (.plain (OpenSpec.upto vecApartSpec)) vecApartUptoCard
end Rows
end Go.Proofs.YtlgaelndboeapaaDoor

/-
  DERIVED. GIVEN WITH THE SEED: THE CARDS: each row of YtbacchbcanlciaaGreatDoorRows.lean that lists a variable, with what it lists TIED to the program's text (the seventh form; the later family's looks); each row that meets fmt, with fmt's text TOLD by the authors' own Lean function (tested against real Go, not proved from fmt's source: count such statements apart). THE CARD IS WHAT COUNTS. Prove the row's statement (the work); the ties are given (YtbacchbcanlciaaGreatDoorTie.lean); close each card by the builder's one call (the guide's Derived/Test/ToyasCard.lean, 'card_holds'). Laid BY PROGRAM, IN A SANDBOX (cutbox-door.mjs). By AI agents, Wed Nov 11 2026. No macro, syntax, notation, axiom, sorry.
-/
import Derived.Test.YtbacchbcanlciaaGreatDoorRows
import GoSem.ClaimSeven
namespace Go.Proofs.YtbacchbcanlciaaGreatDoor
namespace Rows

/-- THE TIED CARD OF 'rebuslaw14.ScanRows'. -/
def scanRowsCard : Claim7 := { stood := { row := scanRowsRow, standIns := [], harness := (true, "a1ebe5eab80fbfc2199f3eb33ff37da64017e4b2ce737360169ee0678e4fd4fe"), looks := true }, kinds := [], alts := [], laidByText := true, laidKinds := [.data], laidTests := true, laidLooks := .later }
def ScanRowsCardSaid : Prop := Claim7.holds Tryz.pinned (.plain (OpenSpec.ofChange scanRowsSpec)) scanRowsCard

/-- THE TIED CARD OF 'rebuslaw14.ScanLong'. -/
def scanLongCard : Claim7 := { stood := { row := scanLongRow, standIns := [], harness := (true, "a1ebe5eab80fbfc2199f3eb33ff37da64017e4b2ce737360169ee0678e4fd4fe"), looks := true }, kinds := [], alts := [], laidByText := true, laidKinds := [.data], laidTests := true, laidLooks := .later }
def ScanLongCardSaid : Prop := Claim7.holds Tryz.pinned (.plain (OpenSpec.ofChange scanLongSpec)) scanLongCard

/-- THE TIED CARD OF 'rebuslaw14.ScanOthers'. -/
def scanOthersCard : Claim7 := { stood := { row := scanOthersRow, standIns := [], harness := (true, "a1ebe5eab80fbfc2199f3eb33ff37da64017e4b2ce737360169ee0678e4fd4fe"), looks := true }, kinds := [], alts := [], laidByText := true, laidKinds := [.data], laidTests := true, laidLooks := .later }
def ScanOthersCardSaid : Prop := Claim7.holds Tryz.pinned (.plain (OpenSpec.ofChange scanOthersSpec)) scanOthersCard

/-- THE SECOND FORM's CARD OF 'rebuslaw14.ScanRows'. -/
def scanRowsUptoCard : Claim7 := { stood := { row := scanRowsUptoRow, standIns := [], harness := (true, "a1ebe5eab80fbfc2199f3eb33ff37da64017e4b2ce737360169ee0678e4fd4fe"), looks := true }, kinds := [], alts := [], laidByText := true, laidKinds := [.data], laidTests := true, laidLooks := .later }
def ScanRowsUptoCardSaid : Prop := Claim7.holds Tryz.pinned (.plain (OpenSpec.upto scanRowsSpec)) scanRowsUptoCard

/-- THE SECOND FORM's CARD OF 'rebuslaw14.ScanLong'. -/
def scanLongUptoCard : Claim7 := { stood := { row := scanLongUptoRow, standIns := [], harness := (true, "a1ebe5eab80fbfc2199f3eb33ff37da64017e4b2ce737360169ee0678e4fd4fe"), looks := true }, kinds := [], alts := [], laidByText := true, laidKinds := [.data], laidTests := true, laidLooks := .later }
def ScanLongUptoCardSaid : Prop := Claim7.holds Tryz.pinned (.plain (OpenSpec.upto scanLongSpec)) scanLongUptoCard

/-- THE SECOND FORM's CARD OF 'rebuslaw14.ScanOthers'. -/
def scanOthersUptoCard : Claim7 := { stood := { row := scanOthersUptoRow, standIns := [], harness := (true, "a1ebe5eab80fbfc2199f3eb33ff37da64017e4b2ce737360169ee0678e4fd4fe"), looks := true }, kinds := [], alts := [], laidByText := true, laidKinds := [.data], laidTests := true, laidLooks := .later }
def ScanOthersUptoCardSaid : Prop := Claim7.holds Tryz.pinned (.plain (OpenSpec.upto scanOthersSpec)) scanOthersUptoCard
end Rows
end Go.Proofs.YtbacchbcanlciaaGreatDoor

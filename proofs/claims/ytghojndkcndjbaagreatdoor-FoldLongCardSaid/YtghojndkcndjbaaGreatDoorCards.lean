/-
  DERIVED. GIVEN WITH THE SEED: THE CARDS: each row of YtghojndkcndjbaaGreatDoorRows.lean that lists a variable, with what it lists TIED to the program's text (the seventh form; the later family's looks); each row that meets fmt, with fmt's text TOLD by the authors' own Lean function (tested against real Go, not proved from fmt's source: count such statements apart). THE CARD IS WHAT COUNTS. Prove the row's statement (the work); the ties are given (YtghojndkcndjbaaGreatDoorTie.lean); close each card by the builder's one call (the guide's Derived/Test/ToyasCard.lean, 'card_holds'). Laid BY PROGRAM, IN A SANDBOX (cutbox-door.mjs). By AI agents, Wed Nov 11 2026. No macro, syntax, notation, axiom, sorry.
-/
import Derived.Test.YtghojndkcndjbaaGreatDoorRows
import GoSem.ClaimSeven
namespace Go.Proofs.YtghojndkcndjbaaGreatDoor
namespace Rows

/-- THE TIED CARD OF 'rebuslaw13.FoldOne'. -/
def foldOneCard : Claim7 := { stood := { row := foldOneRow, standIns := [], harness := (true, "ca43d91a7563e5178d05dda2b2997cc45c731f73013a247c5b1f249dde3dd200"), looks := true }, kinds := [], alts := [], laidByText := true, laidKinds := [.data], laidTests := true, laidLooks := .later }
def FoldOneCardSaid : Prop := Claim7.holds Tryz.pinned (.plain (OpenSpec.ofChange foldOneSpec)) foldOneCard

/-- THE TIED CARD OF 'rebuslaw13.FoldRows'. -/
def foldRowsCard : Claim7 := { stood := { row := foldRowsRow, standIns := [], harness := (true, "ca43d91a7563e5178d05dda2b2997cc45c731f73013a247c5b1f249dde3dd200"), looks := true }, kinds := [], alts := [], laidByText := true, laidKinds := [.data], laidTests := true, laidLooks := .later }
def FoldRowsCardSaid : Prop := Claim7.holds Tryz.pinned (.plain (OpenSpec.ofChange foldRowsSpec)) foldRowsCard

/-- THE TIED CARD OF 'rebuslaw13.FoldLong'. -/
def foldLongCard : Claim7 := { stood := { row := foldLongRow, standIns := [], harness := (true, "ca43d91a7563e5178d05dda2b2997cc45c731f73013a247c5b1f249dde3dd200"), looks := true }, kinds := [], alts := [], laidByText := true, laidKinds := [.data], laidTests := true, laidLooks := .later }
def FoldLongCardSaid : Prop := Claim7.holds Tryz.pinned (.plain (OpenSpec.ofChange foldLongSpec)) foldLongCard

/-- THE TIED CARD OF 'rebuslaw13.FoldOthers'. -/
def foldOthersCard : Claim7 := { stood := { row := foldOthersRow, standIns := [], harness := (true, "ca43d91a7563e5178d05dda2b2997cc45c731f73013a247c5b1f249dde3dd200"), looks := true }, kinds := [], alts := [], laidByText := true, laidKinds := [.data], laidTests := true, laidLooks := .later }
def FoldOthersCardSaid : Prop := Claim7.holds Tryz.pinned (.plain (OpenSpec.ofChange foldOthersSpec)) foldOthersCard

/-- THE SECOND FORM's CARD OF 'rebuslaw13.FoldOne'. -/
def foldOneUptoCard : Claim7 := { stood := { row := foldOneUptoRow, standIns := [], harness := (true, "ca43d91a7563e5178d05dda2b2997cc45c731f73013a247c5b1f249dde3dd200"), looks := true }, kinds := [], alts := [], laidByText := true, laidKinds := [.data], laidTests := true, laidLooks := .later }
def FoldOneUptoCardSaid : Prop := Claim7.holds Tryz.pinned (.plain (OpenSpec.upto foldOneSpec)) foldOneUptoCard

/-- THE SECOND FORM's CARD OF 'rebuslaw13.FoldRows'. -/
def foldRowsUptoCard : Claim7 := { stood := { row := foldRowsUptoRow, standIns := [], harness := (true, "ca43d91a7563e5178d05dda2b2997cc45c731f73013a247c5b1f249dde3dd200"), looks := true }, kinds := [], alts := [], laidByText := true, laidKinds := [.data], laidTests := true, laidLooks := .later }
def FoldRowsUptoCardSaid : Prop := Claim7.holds Tryz.pinned (.plain (OpenSpec.upto foldRowsSpec)) foldRowsUptoCard

/-- THE SECOND FORM's CARD OF 'rebuslaw13.FoldLong'. -/
def foldLongUptoCard : Claim7 := { stood := { row := foldLongUptoRow, standIns := [], harness := (true, "ca43d91a7563e5178d05dda2b2997cc45c731f73013a247c5b1f249dde3dd200"), looks := true }, kinds := [], alts := [], laidByText := true, laidKinds := [.data], laidTests := true, laidLooks := .later }
def FoldLongUptoCardSaid : Prop := Claim7.holds Tryz.pinned (.plain (OpenSpec.upto foldLongSpec)) foldLongUptoCard

/-- THE SECOND FORM's CARD OF 'rebuslaw13.FoldOthers'. -/
def foldOthersUptoCard : Claim7 := { stood := { row := foldOthersUptoRow, standIns := [], harness := (true, "ca43d91a7563e5178d05dda2b2997cc45c731f73013a247c5b1f249dde3dd200"), looks := true }, kinds := [], alts := [], laidByText := true, laidKinds := [.data], laidTests := true, laidLooks := .later }
def FoldOthersUptoCardSaid : Prop := Claim7.holds Tryz.pinned (.plain (OpenSpec.upto foldOthersSpec)) foldOthersUptoCard
end Rows
end Go.Proofs.YtghojndkcndjbaaGreatDoor

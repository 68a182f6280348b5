/-
  DERIVED. GIVEN WITH THE SEED: THE CARDS: each row of YtibkbhglcmpeaaaDoorRows.lean that lists a variable, with what it lists TIED to the program's text (the seventh form; the later family's looks); each row that meets fmt, with fmt's text TOLD by the authors' own Lean function (tested against real Go, not proved from fmt's source: count such statements apart). THE CARD IS WHAT COUNTS. Prove the row's statement (the work); the ties are given (YtibkbhglcmpeaaaDoorTie.lean); close each card by the builder's one call (the guide's Derived/Test/ToyasCard.lean, 'card_holds'). Laid BY PROGRAM, IN A SANDBOX (cutbox-door.mjs). By AI agents, Wed Nov 11 2026. No macro, syntax, notation, axiom, sorry.
-/
import Derived.Test.YtibkbhglcmpeaaaDoorRows
import GoSem.ClaimSeven
namespace Go.Proofs.YtibkbhglcmpeaaaDoor
namespace Rows

/-- THE TIED CARD OF 'rebuslaw16.OrderCompares'. -/
def orderComparesCard : Claim7 := { stood := { row := orderComparesRow, standIns := [], harness := (true, "6fb1868994ab86b2083a676417d2f8807bcd960e818b6f99483e8e750ceb00c7"), looks := true }, kinds := [], alts := [], laidByText := true, laidKinds := [.data], laidTests := true, laidLooks := .later }
def OrderComparesCardSaid : Prop := Claim7.holds Tryd.pinned (.plain (OpenSpec.ofChange orderComparesSpec)) orderComparesCard

/-- THE TIED CARD OF 'rebuslaw16.OrderCells'. -/
def orderCellsCard : Claim7 := { stood := { row := orderCellsRow, standIns := [], harness := (true, "6fb1868994ab86b2083a676417d2f8807bcd960e818b6f99483e8e750ceb00c7"), looks := true }, kinds := [], alts := [], laidByText := true, laidKinds := [.data], laidTests := true, laidLooks := .later }
def OrderCellsCardSaid : Prop := Claim7.holds Tryd.pinned (.plain (OpenSpec.ofChange orderCellsSpec)) orderCellsCard

/-- THE TIED CARD OF 'rebuslaw16.OrderSorted'. -/
def orderSortedCard : Claim7 := { stood := { row := orderSortedRow, standIns := [], harness := (true, "6fb1868994ab86b2083a676417d2f8807bcd960e818b6f99483e8e750ceb00c7"), looks := true }, kinds := [], alts := [], laidByText := true, laidKinds := [.data], laidTests := true, laidLooks := .later }
def OrderSortedCardSaid : Prop := Claim7.holds Tryd.pinned (.plain (OpenSpec.ofChange orderSortedSpec)) orderSortedCard

/-- THE TIED CARD OF 'rebuslaw16.OrderInverts'. -/
def orderInvertsCard : Claim7 := { stood := { row := orderInvertsRow, standIns := [], harness := (true, "6fb1868994ab86b2083a676417d2f8807bcd960e818b6f99483e8e750ceb00c7"), looks := true }, kinds := [], alts := [], laidByText := true, laidKinds := [.data], laidTests := true, laidLooks := .later }
def OrderInvertsCardSaid : Prop := Claim7.holds Tryd.pinned (.plain (OpenSpec.ofChange orderInvertsSpec)) orderInvertsCard

/-- THE TIED CARD OF 'rebuslaw16.OrderTotal'. -/
def orderTotalCard : Claim7 := { stood := { row := orderTotalRow, standIns := [], harness := (true, "6fb1868994ab86b2083a676417d2f8807bcd960e818b6f99483e8e750ceb00c7"), looks := true }, kinds := [], alts := [], laidByText := true, laidKinds := [.data], laidTests := true, laidLooks := .later }
def OrderTotalCardSaid : Prop := Claim7.holds Tryd.pinned (.plain (OpenSpec.ofChange orderTotalSpec)) orderTotalCard

/-- THE SECOND FORM's CARD OF 'rebuslaw16.OrderCompares'. -/
def orderComparesUptoCard : Claim7 := { stood := { row := orderComparesUptoRow, standIns := [], harness := (true, "6fb1868994ab86b2083a676417d2f8807bcd960e818b6f99483e8e750ceb00c7"), looks := true }, kinds := [], alts := [], laidByText := true, laidKinds := [.data], laidTests := true, laidLooks := .later }
def OrderComparesUptoCardSaid : Prop := Claim7.holds Tryd.pinned (.plain (OpenSpec.upto orderComparesSpec)) orderComparesUptoCard

/-- THE SECOND FORM's CARD OF 'rebuslaw16.OrderCells'. -/
def orderCellsUptoCard : Claim7 := { stood := { row := orderCellsUptoRow, standIns := [], harness := (true, "6fb1868994ab86b2083a676417d2f8807bcd960e818b6f99483e8e750ceb00c7"), looks := true }, kinds := [], alts := [], laidByText := true, laidKinds := [.data], laidTests := true, laidLooks := .later }
def OrderCellsUptoCardSaid : Prop := Claim7.holds Tryd.pinned (.plain (OpenSpec.upto orderCellsSpec)) orderCellsUptoCard

/-- THE SECOND FORM's CARD OF 'rebuslaw16.OrderSorted'. -/
def orderSortedUptoCard : Claim7 := { stood := { row := orderSortedUptoRow, standIns := [], harness := (true, "6fb1868994ab86b2083a676417d2f8807bcd960e818b6f99483e8e750ceb00c7"), looks := true }, kinds := [], alts := [], laidByText := true, laidKinds := [.data], laidTests := true, laidLooks := .later }
def OrderSortedUptoCardSaid : Prop := Claim7.holds Tryd.pinned (.plain (OpenSpec.upto orderSortedSpec)) orderSortedUptoCard

/-- THE SECOND FORM's CARD OF 'rebuslaw16.OrderInverts'. -/
def orderInvertsUptoCard : Claim7 := { stood := { row := orderInvertsUptoRow, standIns := [], harness := (true, "6fb1868994ab86b2083a676417d2f8807bcd960e818b6f99483e8e750ceb00c7"), looks := true }, kinds := [], alts := [], laidByText := true, laidKinds := [.data], laidTests := true, laidLooks := .later }
def OrderInvertsUptoCardSaid : Prop := Claim7.holds Tryd.pinned (.plain (OpenSpec.upto orderInvertsSpec)) orderInvertsUptoCard

/-- THE SECOND FORM's CARD OF 'rebuslaw16.OrderTotal'. -/
def orderTotalUptoCard : Claim7 := { stood := { row := orderTotalUptoRow, standIns := [], harness := (true, "6fb1868994ab86b2083a676417d2f8807bcd960e818b6f99483e8e750ceb00c7"), looks := true }, kinds := [], alts := [], laidByText := true, laidKinds := [.data], laidTests := true, laidLooks := .later }
def OrderTotalUptoCardSaid : Prop := Claim7.holds Tryd.pinned (.plain (OpenSpec.upto orderTotalSpec)) orderTotalUptoCard
end Rows
end Go.Proofs.YtibkbhglcmpeaaaDoor

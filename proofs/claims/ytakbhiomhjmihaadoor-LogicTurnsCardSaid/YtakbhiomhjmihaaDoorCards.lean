/-
  DERIVED. GIVEN WITH THE SEED: THE CARDS: each row of YtakbhiomhjmihaaDoorRows.lean that lists a variable, with what it lists TIED to the program's text (the seventh form; the later family's looks); each row that meets fmt, with fmt's text TOLD by the authors' own Lean function (tested against real Go, not proved from fmt's source: count such statements apart). THE CARD IS WHAT COUNTS. Prove the row's statement (the work); the ties are given (YtakbhiomhjmihaaDoorTie.lean); close each card by the builder's one call (the guide's Derived/Test/ToyasCard.lean, 'card_holds'). Laid BY PROGRAM, IN A SANDBOX (cutbox-door.mjs). By AI agents, Wed Nov 11 2026. No macro, syntax, notation, axiom, sorry.
-/
import Derived.Test.YtakbhiomhjmihaaDoorRows
import GoSem.ClaimSeven
namespace Go.Proofs.YtakbhiomhjmihaaDoor
namespace Rows

/-- THE TIED CARD OF 'rebuslaw12.LogicOne'. -/
def logicOneCard : Claim7 := { stood := { row := logicOneRow, standIns := [], harness := (true, "7bbc174e1e318e4b7de17627c742c6179cd189bff35954930bdbc61aaa5d502e"), looks := true }, kinds := [], alts := [], laidByText := true, laidKinds := [.data], laidTests := true, laidLooks := .later }
def LogicOneCardSaid : Prop := Claim7.holds Tryd.pinned (.plain (OpenSpec.ofChange logicOneSpec)) logicOneCard

/-- THE TIED CARD OF 'rebuslaw12.LogicApplies'. -/
def logicAppliesCard : Claim7 := { stood := { row := logicAppliesRow, standIns := [], harness := (true, "7bbc174e1e318e4b7de17627c742c6179cd189bff35954930bdbc61aaa5d502e"), looks := true }, kinds := [], alts := [], laidByText := true, laidKinds := [.data], laidTests := true, laidLooks := .later }
def LogicAppliesCardSaid : Prop := Claim7.holds Tryd.pinned (.plain (OpenSpec.ofChange logicAppliesSpec)) logicAppliesCard

/-- THE TIED CARD OF 'rebuslaw12.LogicOthers'. -/
def logicOthersCard : Claim7 := { stood := { row := logicOthersRow, standIns := [], harness := (true, "7bbc174e1e318e4b7de17627c742c6179cd189bff35954930bdbc61aaa5d502e"), looks := true }, kinds := [], alts := [], laidByText := true, laidKinds := [.data], laidTests := true, laidLooks := .later }
def LogicOthersCardSaid : Prop := Claim7.holds Tryd.pinned (.plain (OpenSpec.ofChange logicOthersSpec)) logicOthersCard

/-- THE TIED CARD OF 'rebuslaw12.LogicTurns'. -/
def logicTurnsCard : Claim7 := { stood := { row := logicTurnsRow, standIns := [], harness := (true, "7bbc174e1e318e4b7de17627c742c6179cd189bff35954930bdbc61aaa5d502e"), looks := true }, kinds := [], alts := [], laidByText := true, laidKinds := [.data], laidTests := true, laidLooks := .later }
def LogicTurnsCardSaid : Prop := Claim7.holds Tryd.pinned (.plain (OpenSpec.ofChange logicTurnsSpec)) logicTurnsCard

/-- THE SECOND FORM's CARD OF 'rebuslaw12.LogicOne'. -/
def logicOneUptoCard : Claim7 := { stood := { row := logicOneUptoRow, standIns := [], harness := (true, "7bbc174e1e318e4b7de17627c742c6179cd189bff35954930bdbc61aaa5d502e"), looks := true }, kinds := [], alts := [], laidByText := true, laidKinds := [.data], laidTests := true, laidLooks := .later }
def LogicOneUptoCardSaid : Prop := Claim7.holds Tryd.pinned (.plain (OpenSpec.upto logicOneSpec)) logicOneUptoCard

/-- THE SECOND FORM's CARD OF 'rebuslaw12.LogicApplies'. -/
def logicAppliesUptoCard : Claim7 := { stood := { row := logicAppliesUptoRow, standIns := [], harness := (true, "7bbc174e1e318e4b7de17627c742c6179cd189bff35954930bdbc61aaa5d502e"), looks := true }, kinds := [], alts := [], laidByText := true, laidKinds := [.data], laidTests := true, laidLooks := .later }
def LogicAppliesUptoCardSaid : Prop := Claim7.holds Tryd.pinned (.plain (OpenSpec.upto logicAppliesSpec)) logicAppliesUptoCard

/-- THE SECOND FORM's CARD OF 'rebuslaw12.LogicOthers'. -/
def logicOthersUptoCard : Claim7 := { stood := { row := logicOthersUptoRow, standIns := [], harness := (true, "7bbc174e1e318e4b7de17627c742c6179cd189bff35954930bdbc61aaa5d502e"), looks := true }, kinds := [], alts := [], laidByText := true, laidKinds := [.data], laidTests := true, laidLooks := .later }
def LogicOthersUptoCardSaid : Prop := Claim7.holds Tryd.pinned (.plain (OpenSpec.upto logicOthersSpec)) logicOthersUptoCard

/-- THE SECOND FORM's CARD OF 'rebuslaw12.LogicTurns'. -/
def logicTurnsUptoCard : Claim7 := { stood := { row := logicTurnsUptoRow, standIns := [], harness := (true, "7bbc174e1e318e4b7de17627c742c6179cd189bff35954930bdbc61aaa5d502e"), looks := true }, kinds := [], alts := [], laidByText := true, laidKinds := [.data], laidTests := true, laidLooks := .later }
def LogicTurnsUptoCardSaid : Prop := Claim7.holds Tryd.pinned (.plain (OpenSpec.upto logicTurnsSpec)) logicTurnsUptoCard
end Rows
end Go.Proofs.YtakbhiomhjmihaaDoor

/-
  DERIVED. GIVEN WITH THE SEED: THE CARDS: each row of YtohjomhiibkobaaDoorRows.lean that lists a variable, with what it lists TIED to the program's text (the seventh form; the later family's looks); each row that meets fmt, with fmt's text TOLD by the authors' own Lean function (tested against real Go, not proved from fmt's source: count such statements apart). THE CARD IS WHAT COUNTS. Prove the row's statement (the work); the ties are given (YtohjomhiibkobaaDoorTie.lean); close each card by the builder's one call (the guide's Derived/Test/ToyasCard.lean, 'card_holds'). Laid BY PROGRAM, IN A SANDBOX (cutbox-door.mjs). By AI agents, Wed Nov 11 2026. No macro, syntax, notation, axiom, sorry.
-/
import Derived.Test.YtohjomhiibkobaaDoorRows
import GoSem.ClaimSeven
namespace Go.Proofs.YtohjomhiibkobaaDoor
namespace Rows

/-- THE TIED CARD OF 'rebuslaw07.ValueNew'. -/
def valueNewCard : Claim7 := { stood := { row := valueNewRow, standIns := [], harness := (true, "32a63816580adf256df3d827893959542fc2f973cbffce1c3cdebfdaa68dce7f"), looks := true }, kinds := [], alts := [], laidByText := true, laidKinds := [.data], laidTests := true, laidLooks := .later }
def ValueNewCardSaid : Prop := Claim7.holds Tryd.pinned (.plain (OpenSpec.ofChange valueNewSpec)) valueNewCard

/-- THE SECOND FORM's CARD OF 'rebuslaw07.ValueNew'. -/
def valueNewUptoCard : Claim7 := { stood := { row := valueNewUptoRow, standIns := [], harness := (true, "32a63816580adf256df3d827893959542fc2f973cbffce1c3cdebfdaa68dce7f"), looks := true }, kinds := [], alts := [], laidByText := true, laidKinds := [.data], laidTests := true, laidLooks := .later }
def ValueNewUptoCardSaid : Prop := Claim7.holds Tryd.pinned (.plain (OpenSpec.upto valueNewSpec)) valueNewUptoCard
end Rows
end Go.Proofs.YtohjomhiibkobaaDoor

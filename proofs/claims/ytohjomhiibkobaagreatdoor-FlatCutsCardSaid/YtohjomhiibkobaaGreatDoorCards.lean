/-
  DERIVED. GIVEN WITH THE SEED: THE CARDS: each row of YtohjomhiibkobaaGreatDoorRows.lean that lists a variable, with what it lists TIED to the program's text (the seventh form; the later family's looks); each row that meets fmt, with fmt's text TOLD by the authors' own Lean function (tested against real Go, not proved from fmt's source: count such statements apart). THE CARD IS WHAT COUNTS. Prove the row's statement (the work); the ties are given (YtohjomhiibkobaaGreatDoorTie.lean); close each card by the builder's one call (the guide's Derived/Test/ToyasCard.lean, 'card_holds'). Laid BY PROGRAM, IN A SANDBOX (cutbox-door.mjs). By AI agents, Wed Nov 11 2026. No macro, syntax, notation, axiom, sorry.
-/
import Derived.Test.YtohjomhiibkobaaGreatDoorRows
import GoSem.ClaimSeven
namespace Go.Proofs.YtohjomhiibkobaaGreatDoor
namespace Rows

/-- THE TIED CARD OF 'rebuslaw07.ValueAlone'. -/
def valueAloneCard : Claim7 := { stood := { row := valueAloneRow, standIns := [], harness := (true, "792b811d3a77eae542fa9ef4a5acc5bd2a36920c8d41b71ade1fb753eead21cd"), looks := true }, kinds := [], alts := [], laidByText := true, laidKinds := [.data], laidTests := true, laidLooks := .later }
def ValueAloneCardSaid : Prop := Claim7.holds Tryz.pinned (.plain (OpenSpec.ofChange valueAloneSpec)) valueAloneCard

/-- THE TIED CARD OF 'rebuslaw08.FlatPicks'. -/
def flatPicksCard : Claim7 := { stood := { row := flatPicksRow, standIns := [], harness := (true, "792b811d3a77eae542fa9ef4a5acc5bd2a36920c8d41b71ade1fb753eead21cd"), looks := true }, kinds := [], alts := [], laidByText := true, laidKinds := [.data], laidTests := true, laidLooks := .later }
def FlatPicksCardSaid : Prop := Claim7.holds Tryz.pinned (.plain (OpenSpec.ofChange flatPicksSpec)) flatPicksCard

/-- THE TIED CARD OF 'rebuslaw08.FlatCuts'. -/
def flatCutsCard : Claim7 := { stood := { row := flatCutsRow, standIns := [], harness := (true, "792b811d3a77eae542fa9ef4a5acc5bd2a36920c8d41b71ade1fb753eead21cd"), looks := true }, kinds := [], alts := [], laidByText := true, laidKinds := [.data], laidTests := true, laidLooks := .later }
def FlatCutsCardSaid : Prop := Claim7.holds Tryz.pinned (.plain (OpenSpec.ofChange flatCutsSpec)) flatCutsCard

/-- THE TIED CARD OF 'rebuslaw08.FlatJoins'. -/
def flatJoinsCard : Claim7 := { stood := { row := flatJoinsRow, standIns := [], harness := (true, "792b811d3a77eae542fa9ef4a5acc5bd2a36920c8d41b71ade1fb753eead21cd"), looks := true }, kinds := [], alts := [], laidByText := true, laidKinds := [.data], laidTests := true, laidLooks := .later }
def FlatJoinsCardSaid : Prop := Claim7.holds Tryz.pinned (.plain (OpenSpec.ofChange flatJoinsSpec)) flatJoinsCard

/-- THE TIED CARD OF 'rebuslaw08.FlatTwice'. -/
def flatTwiceCard : Claim7 := { stood := { row := flatTwiceRow, standIns := [], harness := (true, "792b811d3a77eae542fa9ef4a5acc5bd2a36920c8d41b71ade1fb753eead21cd"), looks := true }, kinds := [], alts := [], laidByText := true, laidKinds := [.data], laidTests := true, laidLooks := .later }
def FlatTwiceCardSaid : Prop := Claim7.holds Tryz.pinned (.plain (OpenSpec.ofChange flatTwiceSpec)) flatTwiceCard

/-- THE SECOND FORM's CARD OF 'rebuslaw07.ValueAlone'. -/
def valueAloneUptoCard : Claim7 := { stood := { row := valueAloneUptoRow, standIns := [], harness := (true, "792b811d3a77eae542fa9ef4a5acc5bd2a36920c8d41b71ade1fb753eead21cd"), looks := true }, kinds := [], alts := [], laidByText := true, laidKinds := [.data], laidTests := true, laidLooks := .later }
def ValueAloneUptoCardSaid : Prop := Claim7.holds Tryz.pinned (.plain (OpenSpec.upto valueAloneSpec)) valueAloneUptoCard

/-- THE SECOND FORM's CARD OF 'rebuslaw08.FlatPicks'. -/
def flatPicksUptoCard : Claim7 := { stood := { row := flatPicksUptoRow, standIns := [], harness := (true, "792b811d3a77eae542fa9ef4a5acc5bd2a36920c8d41b71ade1fb753eead21cd"), looks := true }, kinds := [], alts := [], laidByText := true, laidKinds := [.data], laidTests := true, laidLooks := .later }
def FlatPicksUptoCardSaid : Prop := Claim7.holds Tryz.pinned (.plain (OpenSpec.upto flatPicksSpec)) flatPicksUptoCard

/-- THE SECOND FORM's CARD OF 'rebuslaw08.FlatCuts'. -/
def flatCutsUptoCard : Claim7 := { stood := { row := flatCutsUptoRow, standIns := [], harness := (true, "792b811d3a77eae542fa9ef4a5acc5bd2a36920c8d41b71ade1fb753eead21cd"), looks := true }, kinds := [], alts := [], laidByText := true, laidKinds := [.data], laidTests := true, laidLooks := .later }
def FlatCutsUptoCardSaid : Prop := Claim7.holds Tryz.pinned (.plain (OpenSpec.upto flatCutsSpec)) flatCutsUptoCard

/-- THE SECOND FORM's CARD OF 'rebuslaw08.FlatJoins'. -/
def flatJoinsUptoCard : Claim7 := { stood := { row := flatJoinsUptoRow, standIns := [], harness := (true, "792b811d3a77eae542fa9ef4a5acc5bd2a36920c8d41b71ade1fb753eead21cd"), looks := true }, kinds := [], alts := [], laidByText := true, laidKinds := [.data], laidTests := true, laidLooks := .later }
def FlatJoinsUptoCardSaid : Prop := Claim7.holds Tryz.pinned (.plain (OpenSpec.upto flatJoinsSpec)) flatJoinsUptoCard

/-- THE SECOND FORM's CARD OF 'rebuslaw08.FlatTwice'. -/
def flatTwiceUptoCard : Claim7 := { stood := { row := flatTwiceUptoRow, standIns := [], harness := (true, "792b811d3a77eae542fa9ef4a5acc5bd2a36920c8d41b71ade1fb753eead21cd"), looks := true }, kinds := [], alts := [], laidByText := true, laidKinds := [.data], laidTests := true, laidLooks := .later }
def FlatTwiceUptoCardSaid : Prop := Claim7.holds Tryz.pinned (.plain (OpenSpec.upto flatTwiceSpec)) flatTwiceUptoCard
end Rows
end Go.Proofs.YtohjomhiibkobaaGreatDoor

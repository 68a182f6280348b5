/-
  DERIVED. GIVEN WITH THE SEED: THE CARDS: each row of YtedginpjbpobdaaDoorRows.lean that lists a variable, with what it lists TIED to the program's text (the seventh form; the later family's looks); each row that meets fmt, with fmt's text TOLD by the authors' own Lean function (tested against real Go, not proved from fmt's source: count such statements apart). THE CARD IS WHAT COUNTS. Prove the row's statement (the work); the ties are given (YtedginpjbpobdaaDoorTie.lean); close each card by the builder's one call (the guide's Derived/Test/ToyasCard.lean, 'card_holds'). Laid BY PROGRAM, IN A SANDBOX (cutbox-door.mjs). By AI agents, Wed Nov 11 2026. No macro, syntax, notation, axiom, sorry.
-/
import Derived.Test.YtedginpjbpobdaaDoorRows
import GoSem.ClaimSeven
namespace Go.Proofs.YtedginpjbpobdaaDoor
namespace Rows

/-- THE TIED CARD OF 'rebuslaw17.RadixGrades'. -/
def radixGradesCard : Claim7 := { stood := { row := radixGradesRow, standIns := [], harness := (true, "ffb0b45f981d0974309194e62a76f50e8fb664adcc3ebb466a6ce735ccf074a3"), looks := true }, kinds := [], alts := [], laidByText := true, laidKinds := [.data], laidTests := true, laidLooks := .later }
def RadixGradesCardSaid : Prop := Claim7.holds Tryd.pinned (.plain (OpenSpec.ofChange radixGradesSpec)) radixGradesCard

/-- THE TIED CARD OF 'rebuslaw17.RadixKeys'. -/
def radixKeysCard : Claim7 := { stood := { row := radixKeysRow, standIns := [], harness := (true, "ffb0b45f981d0974309194e62a76f50e8fb664adcc3ebb466a6ce735ccf074a3"), looks := true }, kinds := [], alts := [], laidByText := true, laidKinds := [.data], laidTests := true, laidLooks := .later }
def RadixKeysCardSaid : Prop := Claim7.holds Tryd.pinned (.plain (OpenSpec.ofChange radixKeysSpec)) radixKeysCard

/-- THE TIED CARD OF 'rebuslaw17.RadixPasses'. -/
def radixPassesCard : Claim7 := { stood := { row := radixPassesRow, standIns := [], harness := (true, "ffb0b45f981d0974309194e62a76f50e8fb664adcc3ebb466a6ce735ccf074a3"), looks := true }, kinds := [], alts := [], laidByText := true, laidKinds := [.data], laidTests := true, laidLooks := .later }
def RadixPassesCardSaid : Prop := Claim7.holds Tryd.pinned (.plain (OpenSpec.ofChange radixPassesSpec)) radixPassesCard

/-- THE SECOND FORM's CARD OF 'rebuslaw17.RadixGrades'. -/
def radixGradesUptoCard : Claim7 := { stood := { row := radixGradesUptoRow, standIns := [], harness := (true, "ffb0b45f981d0974309194e62a76f50e8fb664adcc3ebb466a6ce735ccf074a3"), looks := true }, kinds := [], alts := [], laidByText := true, laidKinds := [.data], laidTests := true, laidLooks := .later }
def RadixGradesUptoCardSaid : Prop := Claim7.holds Tryd.pinned (.plain (OpenSpec.upto radixGradesSpec)) radixGradesUptoCard

/-- THE SECOND FORM's CARD OF 'rebuslaw17.RadixKeys'. -/
def radixKeysUptoCard : Claim7 := { stood := { row := radixKeysUptoRow, standIns := [], harness := (true, "ffb0b45f981d0974309194e62a76f50e8fb664adcc3ebb466a6ce735ccf074a3"), looks := true }, kinds := [], alts := [], laidByText := true, laidKinds := [.data], laidTests := true, laidLooks := .later }
def RadixKeysUptoCardSaid : Prop := Claim7.holds Tryd.pinned (.plain (OpenSpec.upto radixKeysSpec)) radixKeysUptoCard

/-- THE SECOND FORM's CARD OF 'rebuslaw17.RadixPasses'. -/
def radixPassesUptoCard : Claim7 := { stood := { row := radixPassesUptoRow, standIns := [], harness := (true, "ffb0b45f981d0974309194e62a76f50e8fb664adcc3ebb466a6ce735ccf074a3"), looks := true }, kinds := [], alts := [], laidByText := true, laidKinds := [.data], laidTests := true, laidLooks := .later }
def RadixPassesUptoCardSaid : Prop := Claim7.holds Tryd.pinned (.plain (OpenSpec.upto radixPassesSpec)) radixPassesUptoCard
end Rows
end Go.Proofs.YtedginpjbpobdaaDoor

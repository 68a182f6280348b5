/-
  DERIVED. GIVEN WITH THE SEED: THE CARDS: each row of YtbdbpamefkgelaaGreatDoorRows.lean that lists a variable, with what it lists TIED to the program's text (the seventh form; the later family's looks); each row that meets fmt, with fmt's text TOLD by the authors' own Lean function (tested against real Go, not proved from fmt's source: count such statements apart). THE CARD IS WHAT COUNTS. Prove the row's statement (the work); the ties are given (YtbdbpamefkgelaaGreatDoorTie.lean); close each card by the builder's one call (the guide's Derived/Test/ToyasCard.lean, 'card_holds'). Laid BY PROGRAM, IN A SANDBOX (cutbox-door.mjs). By AI agents, Wed Nov 11 2026. No macro, syntax, notation, axiom, sorry.
-/
import Derived.Test.YtbdbpamefkgelaaGreatDoorRows
import GoSem.ClaimSeven
namespace Go.Proofs.YtbdbpamefkgelaaGreatDoor
namespace Rows

/-- THE TIED CARD OF 'rebuslaw18.MergeSorts'. -/
def mergeSortsCard : Claim7 := { stood := { row := mergeSortsRow, standIns := [], harness := (true, "e7d963fff15d19bcf4c461acb31fb13fe62a04c1a96f1a3cb81bf7455c1fdb1e"), looks := true }, kinds := [], alts := [], laidByText := true, laidKinds := [.data], laidTests := true, laidLooks := .later }
def MergeSortsCardSaid : Prop := Claim7.holds Tryz.pinned (.plain (OpenSpec.ofChange mergeSortsSpec)) mergeSortsCard

/-- THE TIED CARD OF 'rebuslaw18.MergeGrades'. -/
def mergeGradesCard : Claim7 := { stood := { row := mergeGradesRow, standIns := [], harness := (true, "e7d963fff15d19bcf4c461acb31fb13fe62a04c1a96f1a3cb81bf7455c1fdb1e"), looks := true }, kinds := [], alts := [], laidByText := true, laidKinds := [.data], laidTests := true, laidLooks := .later }
def MergeGradesCardSaid : Prop := Claim7.holds Tryz.pinned (.plain (OpenSpec.ofChange mergeGradesSpec)) mergeGradesCard

/-- THE TIED CARD OF 'rebuslaw18.MergeOrders'. -/
def mergeOrdersCard : Claim7 := { stood := { row := mergeOrdersRow, standIns := [], harness := (true, "e7d963fff15d19bcf4c461acb31fb13fe62a04c1a96f1a3cb81bf7455c1fdb1e"), looks := true }, kinds := [], alts := [], laidByText := true, laidKinds := [.data], laidTests := true, laidLooks := .later }
def MergeOrdersCardSaid : Prop := Claim7.holds Tryz.pinned (.plain (OpenSpec.ofChange mergeOrdersSpec)) mergeOrdersCard

/-- THE TIED CARD OF 'rebuslaw18.MergeOnce'. -/
def mergeOnceCard : Claim7 := { stood := { row := mergeOnceRow, standIns := [], harness := (true, "e7d963fff15d19bcf4c461acb31fb13fe62a04c1a96f1a3cb81bf7455c1fdb1e"), looks := true }, kinds := [], alts := [], laidByText := true, laidKinds := [.data], laidTests := true, laidLooks := .later }
def MergeOnceCardSaid : Prop := Claim7.holds Tryz.pinned (.plain (OpenSpec.ofChange mergeOnceSpec)) mergeOnceCard

/-- THE SECOND FORM's CARD OF 'rebuslaw18.MergeSorts'. -/
def mergeSortsUptoCard : Claim7 := { stood := { row := mergeSortsUptoRow, standIns := [], harness := (true, "e7d963fff15d19bcf4c461acb31fb13fe62a04c1a96f1a3cb81bf7455c1fdb1e"), looks := true }, kinds := [], alts := [], laidByText := true, laidKinds := [.data], laidTests := true, laidLooks := .later }
def MergeSortsUptoCardSaid : Prop := Claim7.holds Tryz.pinned (.plain (OpenSpec.upto mergeSortsSpec)) mergeSortsUptoCard

/-- THE SECOND FORM's CARD OF 'rebuslaw18.MergeGrades'. -/
def mergeGradesUptoCard : Claim7 := { stood := { row := mergeGradesUptoRow, standIns := [], harness := (true, "e7d963fff15d19bcf4c461acb31fb13fe62a04c1a96f1a3cb81bf7455c1fdb1e"), looks := true }, kinds := [], alts := [], laidByText := true, laidKinds := [.data], laidTests := true, laidLooks := .later }
def MergeGradesUptoCardSaid : Prop := Claim7.holds Tryz.pinned (.plain (OpenSpec.upto mergeGradesSpec)) mergeGradesUptoCard

/-- THE SECOND FORM's CARD OF 'rebuslaw18.MergeOrders'. -/
def mergeOrdersUptoCard : Claim7 := { stood := { row := mergeOrdersUptoRow, standIns := [], harness := (true, "e7d963fff15d19bcf4c461acb31fb13fe62a04c1a96f1a3cb81bf7455c1fdb1e"), looks := true }, kinds := [], alts := [], laidByText := true, laidKinds := [.data], laidTests := true, laidLooks := .later }
def MergeOrdersUptoCardSaid : Prop := Claim7.holds Tryz.pinned (.plain (OpenSpec.upto mergeOrdersSpec)) mergeOrdersUptoCard

/-- THE SECOND FORM's CARD OF 'rebuslaw18.MergeOnce'. -/
def mergeOnceUptoCard : Claim7 := { stood := { row := mergeOnceUptoRow, standIns := [], harness := (true, "e7d963fff15d19bcf4c461acb31fb13fe62a04c1a96f1a3cb81bf7455c1fdb1e"), looks := true }, kinds := [], alts := [], laidByText := true, laidKinds := [.data], laidTests := true, laidLooks := .later }
def MergeOnceUptoCardSaid : Prop := Claim7.holds Tryz.pinned (.plain (OpenSpec.upto mergeOnceSpec)) mergeOnceUptoCard
end Rows
end Go.Proofs.YtbdbpamefkgelaaGreatDoor

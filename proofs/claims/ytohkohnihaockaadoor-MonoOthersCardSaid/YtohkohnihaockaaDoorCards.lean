/-
  DERIVED. GIVEN WITH THE SEED: THE CARDS: each row of YtohkohnihaockaaDoorRows.lean that lists a variable, with what it lists TIED to the program's text (the seventh form; the later family's looks); each row that meets fmt, with fmt's text TOLD by the authors' own Lean function (tested against real Go, not proved from fmt's source: count such statements apart). THE CARD IS WHAT COUNTS. Prove the row's statement (the work); the ties are given (YtohkohnihaockaaDoorTie.lean); close each card by the builder's one call (the guide's Derived/Test/ToyasCard.lean, 'card_holds'). Laid BY PROGRAM, IN A SANDBOX (cutbox-door.mjs). By AI agents, Wed Nov 11 2026. No macro, syntax, notation, axiom, sorry.
-/
import Derived.Test.YtohkohnihaockaaDoorRows
import GoSem.ClaimSeven
namespace Go.Proofs.YtohkohnihaockaaDoor
namespace Rows

/-- THE TIED CARD OF 'rebuslaw09.MonoOne'. -/
def monoOneCard : Claim7 := { stood := { row := monoOneRow, standIns := [], harness := (true, "6c01bf677e22d8ad859ffb86bcf7dd6ed8949a6e944017fbc71e0675329e69a2"), looks := true }, kinds := [], alts := [], laidByText := true, laidKinds := [.data], laidTests := true, laidLooks := .later }
def MonoOneCardSaid : Prop := Claim7.holds Tryd.pinned (.plain (OpenSpec.ofChange monoOneSpec)) monoOneCard

/-- THE TIED CARD OF 'rebuslaw09.MonoApplies'. -/
def monoAppliesCard : Claim7 := { stood := { row := monoAppliesRow, standIns := [], harness := (true, "6c01bf677e22d8ad859ffb86bcf7dd6ed8949a6e944017fbc71e0675329e69a2"), looks := true }, kinds := [], alts := [], laidByText := true, laidKinds := [.data], laidTests := true, laidLooks := .later }
def MonoAppliesCardSaid : Prop := Claim7.holds Tryd.pinned (.plain (OpenSpec.ofChange monoAppliesSpec)) monoAppliesCard

/-- THE TIED CARD OF 'rebuslaw09.MonoOthers'. -/
def monoOthersCard : Claim7 := { stood := { row := monoOthersRow, standIns := [], harness := (true, "6c01bf677e22d8ad859ffb86bcf7dd6ed8949a6e944017fbc71e0675329e69a2"), looks := true }, kinds := [], alts := [], laidByText := true, laidKinds := [.data], laidTests := true, laidLooks := .later }
def MonoOthersCardSaid : Prop := Claim7.holds Tryd.pinned (.plain (OpenSpec.ofChange monoOthersSpec)) monoOthersCard

/-- THE SECOND FORM's CARD OF 'rebuslaw09.MonoOne'. -/
def monoOneUptoCard : Claim7 := { stood := { row := monoOneUptoRow, standIns := [], harness := (true, "6c01bf677e22d8ad859ffb86bcf7dd6ed8949a6e944017fbc71e0675329e69a2"), looks := true }, kinds := [], alts := [], laidByText := true, laidKinds := [.data], laidTests := true, laidLooks := .later }
def MonoOneUptoCardSaid : Prop := Claim7.holds Tryd.pinned (.plain (OpenSpec.upto monoOneSpec)) monoOneUptoCard

/-- THE SECOND FORM's CARD OF 'rebuslaw09.MonoApplies'. -/
def monoAppliesUptoCard : Claim7 := { stood := { row := monoAppliesUptoRow, standIns := [], harness := (true, "6c01bf677e22d8ad859ffb86bcf7dd6ed8949a6e944017fbc71e0675329e69a2"), looks := true }, kinds := [], alts := [], laidByText := true, laidKinds := [.data], laidTests := true, laidLooks := .later }
def MonoAppliesUptoCardSaid : Prop := Claim7.holds Tryd.pinned (.plain (OpenSpec.upto monoAppliesSpec)) monoAppliesUptoCard

/-- THE SECOND FORM's CARD OF 'rebuslaw09.MonoOthers'. -/
def monoOthersUptoCard : Claim7 := { stood := { row := monoOthersUptoRow, standIns := [], harness := (true, "6c01bf677e22d8ad859ffb86bcf7dd6ed8949a6e944017fbc71e0675329e69a2"), looks := true }, kinds := [], alts := [], laidByText := true, laidKinds := [.data], laidTests := true, laidLooks := .later }
def MonoOthersUptoCardSaid : Prop := Claim7.holds Tryd.pinned (.plain (OpenSpec.upto monoOthersSpec)) monoOthersUptoCard
end Rows
end Go.Proofs.YtohkohnihaockaaDoor

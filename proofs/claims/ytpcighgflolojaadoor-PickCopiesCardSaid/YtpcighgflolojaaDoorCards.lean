/-
  DERIVED. GIVEN WITH THE SEED: THE CARDS: each row of YtpcighgflolojaaDoorRows.lean that lists a variable, with what it lists TIED to the program's text (the seventh form; the later family's looks); each row that meets fmt, with fmt's text TOLD by the authors' own Lean function (tested against real Go, not proved from fmt's source: count such statements apart). THE CARD IS WHAT COUNTS. Prove the row's statement (the work); the ties are given (YtpcighgflolojaaDoorTie.lean); close each card by the builder's one call (the guide's Derived/Test/ToyasCard.lean, 'card_holds'). Laid BY PROGRAM, IN A SANDBOX (cutbox-door.mjs). By AI agents, Wed Nov 11 2026. No macro, syntax, notation, axiom, sorry.
-/
import Derived.Test.YtpcighgflolojaaDoorRows
import GoSem.ClaimSeven
namespace Go.Proofs.YtpcighgflolojaaDoor
namespace Rows

/-- THE TIED CARD OF 'rebuslaw15.PickCopies'. -/
def pickCopiesCard : Claim7 := { stood := { row := pickCopiesRow, standIns := [], harness := (true, "1de60d85bba51ff264ae5d306651fcdb8b03b746906aa9b619497b2c9d18a287"), looks := true }, kinds := [], alts := [], laidByText := true, laidKinds := [.data], laidTests := true, laidLooks := .later }
def PickCopiesCardSaid : Prop := Claim7.holds Tryd.pinned (.plain (OpenSpec.ofChange pickCopiesSpec)) pickCopiesCard

/-- THE TIED CARD OF 'rebuslaw15.PickTakes'. -/
def pickTakesCard : Claim7 := { stood := { row := pickTakesRow, standIns := [], harness := (true, "1de60d85bba51ff264ae5d306651fcdb8b03b746906aa9b619497b2c9d18a287"), looks := true }, kinds := [], alts := [], laidByText := true, laidKinds := [.data], laidTests := true, laidLooks := .later }
def PickTakesCardSaid : Prop := Claim7.holds Tryd.pinned (.plain (OpenSpec.ofChange pickTakesSpec)) pickTakesCard

/-- THE SECOND FORM's CARD OF 'rebuslaw15.PickCopies'. -/
def pickCopiesUptoCard : Claim7 := { stood := { row := pickCopiesUptoRow, standIns := [], harness := (true, "1de60d85bba51ff264ae5d306651fcdb8b03b746906aa9b619497b2c9d18a287"), looks := true }, kinds := [], alts := [], laidByText := true, laidKinds := [.data], laidTests := true, laidLooks := .later }
def PickCopiesUptoCardSaid : Prop := Claim7.holds Tryd.pinned (.plain (OpenSpec.upto pickCopiesSpec)) pickCopiesUptoCard

/-- THE SECOND FORM's CARD OF 'rebuslaw15.PickTakes'. -/
def pickTakesUptoCard : Claim7 := { stood := { row := pickTakesUptoRow, standIns := [], harness := (true, "1de60d85bba51ff264ae5d306651fcdb8b03b746906aa9b619497b2c9d18a287"), looks := true }, kinds := [], alts := [], laidByText := true, laidKinds := [.data], laidTests := true, laidLooks := .later }
def PickTakesUptoCardSaid : Prop := Claim7.holds Tryd.pinned (.plain (OpenSpec.upto pickTakesSpec)) pickTakesUptoCard
end Rows
end Go.Proofs.YtpcighgflolojaaDoor

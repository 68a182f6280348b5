/-
  DERIVED. GIVEN WITH THE SEED: THE CARDS: each row of YtnicoddkbcfijaaDoorRows.lean that lists a variable, with what it lists TIED to the program's text (the seventh form; the later family's looks); each row that meets fmt, with fmt's text TOLD by the authors' own Lean function (tested against real Go, not proved from fmt's source: count such statements apart). THE CARD IS WHAT COUNTS. Prove the row's statement (the work); the ties are given (YtnicoddkbcfijaaDoorTie.lean); close each card by the builder's one call (the guide's Derived/Test/ToyasCard.lean, 'card_holds'). Laid BY PROGRAM, IN A SANDBOX (cutbox-door.mjs). By AI agents, Wed Nov 11 2026. No macro, syntax, notation, axiom, sorry.
-/
import Derived.Test.YtnicoddkbcfijaaDoorRows
import GoSem.ClaimSeven
namespace Go.Proofs.YtnicoddkbcfijaaDoor
namespace Rows

/-- THE TIED CARD OF 'rebuslaw05.SqueezeLeast'. -/
def squeezeLeastCard : Claim7 := { stood := { row := squeezeLeastRow, standIns := [], harness := (true, "006b754eebfc92294bf27808e19d0d181be77f6e94050f3565a605a2325d03f0"), looks := true }, kinds := [], alts := [], laidByText := true, laidKinds := [.data], laidTests := true, laidLooks := .later }
def SqueezeLeastCardSaid : Prop := Claim7.holds Tryd.pinned (.plain (OpenSpec.ofChange squeezeLeastSpec)) squeezeLeastCard

/-- THE TIED CARD OF 'rebuslaw05.SqueezeInto'. -/
def squeezeIntoCard : Claim7 := { stood := { row := squeezeIntoRow, standIns := [], harness := (true, "006b754eebfc92294bf27808e19d0d181be77f6e94050f3565a605a2325d03f0"), looks := true }, kinds := [], alts := [], laidByText := true, laidKinds := [.data], laidTests := true, laidLooks := .later }
def SqueezeIntoCardSaid : Prop := Claim7.holds Tryd.pinned (.plain (OpenSpec.ofChange squeezeIntoSpec)) squeezeIntoCard

/-- THE TIED CARD OF 'rebuslaw05.SqueezeOthers'. -/
def squeezeOthersCard : Claim7 := { stood := { row := squeezeOthersRow, standIns := [], harness := (true, "006b754eebfc92294bf27808e19d0d181be77f6e94050f3565a605a2325d03f0"), looks := true }, kinds := [], alts := [], laidByText := true, laidKinds := [.data], laidTests := true, laidLooks := .later }
def SqueezeOthersCardSaid : Prop := Claim7.holds Tryd.pinned (.plain (OpenSpec.ofChange squeezeOthersSpec)) squeezeOthersCard

/-- THE TIED CARD OF 'rebuslaw05.SqueezeCommon'. -/
def squeezeCommonCard : Claim7 := { stood := { row := squeezeCommonRow, standIns := [], harness := (true, "006b754eebfc92294bf27808e19d0d181be77f6e94050f3565a605a2325d03f0"), looks := true }, kinds := [], alts := [], laidByText := true, laidKinds := [.data], laidTests := true, laidLooks := .later }
def SqueezeCommonCardSaid : Prop := Claim7.holds Tryd.pinned (.plain (OpenSpec.ofChange squeezeCommonSpec)) squeezeCommonCard

/-- THE SECOND FORM's CARD OF 'rebuslaw05.SqueezeLeast'. -/
def squeezeLeastUptoCard : Claim7 := { stood := { row := squeezeLeastUptoRow, standIns := [], harness := (true, "006b754eebfc92294bf27808e19d0d181be77f6e94050f3565a605a2325d03f0"), looks := true }, kinds := [], alts := [], laidByText := true, laidKinds := [.data], laidTests := true, laidLooks := .later }
def SqueezeLeastUptoCardSaid : Prop := Claim7.holds Tryd.pinned (.plain (OpenSpec.upto squeezeLeastSpec)) squeezeLeastUptoCard

/-- THE SECOND FORM's CARD OF 'rebuslaw05.SqueezeInto'. -/
def squeezeIntoUptoCard : Claim7 := { stood := { row := squeezeIntoUptoRow, standIns := [], harness := (true, "006b754eebfc92294bf27808e19d0d181be77f6e94050f3565a605a2325d03f0"), looks := true }, kinds := [], alts := [], laidByText := true, laidKinds := [.data], laidTests := true, laidLooks := .later }
def SqueezeIntoUptoCardSaid : Prop := Claim7.holds Tryd.pinned (.plain (OpenSpec.upto squeezeIntoSpec)) squeezeIntoUptoCard

/-- THE SECOND FORM's CARD OF 'rebuslaw05.SqueezeOthers'. -/
def squeezeOthersUptoCard : Claim7 := { stood := { row := squeezeOthersUptoRow, standIns := [], harness := (true, "006b754eebfc92294bf27808e19d0d181be77f6e94050f3565a605a2325d03f0"), looks := true }, kinds := [], alts := [], laidByText := true, laidKinds := [.data], laidTests := true, laidLooks := .later }
def SqueezeOthersUptoCardSaid : Prop := Claim7.holds Tryd.pinned (.plain (OpenSpec.upto squeezeOthersSpec)) squeezeOthersUptoCard

/-- THE SECOND FORM's CARD OF 'rebuslaw05.SqueezeCommon'. -/
def squeezeCommonUptoCard : Claim7 := { stood := { row := squeezeCommonUptoRow, standIns := [], harness := (true, "006b754eebfc92294bf27808e19d0d181be77f6e94050f3565a605a2325d03f0"), looks := true }, kinds := [], alts := [], laidByText := true, laidKinds := [.data], laidTests := true, laidLooks := .later }
def SqueezeCommonUptoCardSaid : Prop := Claim7.holds Tryd.pinned (.plain (OpenSpec.upto squeezeCommonSpec)) squeezeCommonUptoCard
end Rows
end Go.Proofs.YtnicoddkbcfijaaDoor

/-
  DERIVED. GIVEN WITH THE SEED: THE CARDS: each row of YtnionifbhmfkoaaDoorRows.lean that lists a variable, with what it lists TIED to the program's text (the seventh form; the later family's looks); each row that meets fmt, with fmt's text TOLD by the authors' own Lean function (tested against real Go, not proved from fmt's source: count such statements apart). THE CARD IS WHAT COUNTS. Prove the row's statement (the work); the ties are given (YtnionifbhmfkoaaDoorTie.lean); close each card by the builder's one call (the guide's Derived/Test/ToyasCard.lean, 'card_holds'). Laid BY PROGRAM, IN A SANDBOX (cutbox-door.mjs). By AI agents, Wed Nov 11 2026. No macro, syntax, notation, axiom, sorry.
-/
import Derived.Test.YtnionifbhmfkoaaDoorRows
import GoSem.ClaimSeven
namespace Go.Proofs.YtnionifbhmfkoaaDoor
namespace Rows

/-- THE TIED CARD OF 'rebuslaw01.TroubleTells'. -/
def troubleTellsCard : Claim7 := { stood := { row := troubleTellsRow, standIns := [], harness := (true, "9d105e5ba8553c68627c37959d006fcc5b6e798edbc105e9d6f1f0881387fbfe"), looks := true }, kinds := [], alts := [], laidByText := true, laidKinds := [.handle], laidTests := true, laidLooks := .later }
def TroubleTellsCardSaid : Prop := Claim7.holds Tryd.pinned (.plain (OpenSpec.ofChange troubleTellsSpec)) troubleTellsCard

/-- THE TIED CARD OF 'rebuslaw01.TroubleFinds'. -/
def troubleFindsCard : Claim7 := { stood := { row := troubleFindsRow, standIns := [], harness := (true, "9d105e5ba8553c68627c37959d006fcc5b6e798edbc105e9d6f1f0881387fbfe"), looks := true }, kinds := [], alts := [], laidByText := true, laidKinds := [.handle], laidTests := true, laidLooks := .later }
def TroubleFindsCardSaid : Prop := Claim7.holds Tryd.pinned (.plain (OpenSpec.ofChange troubleFindsSpec)) troubleFindsCard

/-- THE TIED CARD OF 'rebuslaw01.TroubleShows'. -/
def troubleShowsCard : Claim7 := { stood := { row := troubleShowsRow, standIns := [], harness := (true, "9d105e5ba8553c68627c37959d006fcc5b6e798edbc105e9d6f1f0881387fbfe"), looks := true }, kinds := [], alts := [], laidByText := true, laidKinds := [.handle], laidTests := true, laidLooks := .later }
def TroubleShowsCardSaid : Prop := Claim7.holds Tryd.pinned (.plain (OpenSpec.ofChange troubleShowsSpec)) troubleShowsCard

/-- THE TIED CARD OF 'rebuslaw01.TroubleClass'. -/
def troubleClassCard : Claim7 := { stood := { row := troubleClassRow, standIns := [], harness := (true, "9d105e5ba8553c68627c37959d006fcc5b6e798edbc105e9d6f1f0881387fbfe"), looks := true }, kinds := [], alts := [], laidByText := true, laidKinds := [.handle], laidTests := true, laidLooks := .later }
def TroubleClassCardSaid : Prop := Claim7.holds Tryd.pinned (.plain (OpenSpec.ofChange troubleClassSpec)) troubleClassCard

/-- THE SECOND FORM's CARD OF 'rebuslaw01.TroubleTells'. -/
def troubleTellsUptoCard : Claim7 := { stood := { row := troubleTellsUptoRow, standIns := [], harness := (true, "9d105e5ba8553c68627c37959d006fcc5b6e798edbc105e9d6f1f0881387fbfe"), looks := true }, kinds := [], alts := [], laidByText := true, laidKinds := [.handle], laidTests := true, laidLooks := .later }
def TroubleTellsUptoCardSaid : Prop := Claim7.holds Tryd.pinned (.plain (OpenSpec.upto troubleTellsSpec)) troubleTellsUptoCard

/-- THE SECOND FORM's CARD OF 'rebuslaw01.TroubleFinds'. -/
def troubleFindsUptoCard : Claim7 := { stood := { row := troubleFindsUptoRow, standIns := [], harness := (true, "9d105e5ba8553c68627c37959d006fcc5b6e798edbc105e9d6f1f0881387fbfe"), looks := true }, kinds := [], alts := [], laidByText := true, laidKinds := [.handle], laidTests := true, laidLooks := .later }
def TroubleFindsUptoCardSaid : Prop := Claim7.holds Tryd.pinned (.plain (OpenSpec.upto troubleFindsSpec)) troubleFindsUptoCard

/-- THE SECOND FORM's CARD OF 'rebuslaw01.TroubleShows'. -/
def troubleShowsUptoCard : Claim7 := { stood := { row := troubleShowsUptoRow, standIns := [], harness := (true, "9d105e5ba8553c68627c37959d006fcc5b6e798edbc105e9d6f1f0881387fbfe"), looks := true }, kinds := [], alts := [], laidByText := true, laidKinds := [.handle], laidTests := true, laidLooks := .later }
def TroubleShowsUptoCardSaid : Prop := Claim7.holds Tryd.pinned (.plain (OpenSpec.upto troubleShowsSpec)) troubleShowsUptoCard

/-- THE SECOND FORM's CARD OF 'rebuslaw01.TroubleClass'. -/
def troubleClassUptoCard : Claim7 := { stood := { row := troubleClassUptoRow, standIns := [], harness := (true, "9d105e5ba8553c68627c37959d006fcc5b6e798edbc105e9d6f1f0881387fbfe"), looks := true }, kinds := [], alts := [], laidByText := true, laidKinds := [.handle], laidTests := true, laidLooks := .later }
def TroubleClassUptoCardSaid : Prop := Claim7.holds Tryd.pinned (.plain (OpenSpec.upto troubleClassSpec)) troubleClassUptoCard
end Rows
end Go.Proofs.YtnionifbhmfkoaaDoor

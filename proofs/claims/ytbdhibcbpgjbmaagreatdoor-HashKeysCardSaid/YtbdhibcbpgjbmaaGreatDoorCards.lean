/-
  DERIVED. GIVEN WITH THE SEED: THE CARDS: each row of YtbdhibcbpgjbmaaGreatDoorRows.lean that lists a variable, with what it lists TIED to the program's text (the seventh form; the later family's looks); each row that meets fmt, with fmt's text TOLD by the authors' own Lean function (tested against real Go, not proved from fmt's source: count such statements apart). THE CARD IS WHAT COUNTS. Prove the row's statement (the work); the ties are given (YtbdhibcbpgjbmaaGreatDoorTie.lean); close each card by the builder's one call (the guide's Derived/Test/ToyasCard.lean, 'card_holds'). Laid BY PROGRAM, IN A SANDBOX (cutbox-door.mjs). By AI agents, Wed Nov 11 2026. No macro, syntax, notation, axiom, sorry.
-/
import Derived.Test.YtbdhibcbpgjbmaaGreatDoorRows
import GoSem.ClaimSeven
namespace Go.Proofs.YtbdhibcbpgjbmaaGreatDoor
namespace Rows

/-- THE TIED CARD OF 'rebuslaw19.HashFinds'. -/
def hashFindsCard : Claim7 := { stood := { row := hashFindsRow, standIns := [], harness := (true, "99faacfe47776fbfb59fc3cfda90e73a6726cacf1e29f957faaf52983a7166dc"), looks := true }, kinds := [], alts := [], laidByText := true, laidKinds := [.data], laidTests := true, laidLooks := .later }
def HashFindsCardSaid : Prop := Claim7.holds Tryz.pinned (.plain (OpenSpec.ofChange hashFindsSpec)) hashFindsCard

/-- THE TIED CARD OF 'rebuslaw19.HashFirsts'. -/
def hashFirstsCard : Claim7 := { stood := { row := hashFirstsRow, standIns := [], harness := (true, "99faacfe47776fbfb59fc3cfda90e73a6726cacf1e29f957faaf52983a7166dc"), looks := true }, kinds := [], alts := [], laidByText := true, laidKinds := [.data], laidTests := true, laidLooks := .later }
def HashFirstsCardSaid : Prop := Claim7.holds Tryz.pinned (.plain (OpenSpec.ofChange hashFirstsSpec)) hashFirstsCard

/-- THE TIED CARD OF 'rebuslaw19.HashKeys'. -/
def hashKeysCard : Claim7 := { stood := { row := hashKeysRow, standIns := [], harness := (true, "99faacfe47776fbfb59fc3cfda90e73a6726cacf1e29f957faaf52983a7166dc"), looks := true }, kinds := [], alts := [], laidByText := true, laidKinds := [.data], laidTests := true, laidLooks := .later }
def HashKeysCardSaid : Prop := Claim7.holds Tryz.pinned (.plain (OpenSpec.ofChange hashKeysSpec)) hashKeysCard

/-- THE SECOND FORM's CARD OF 'rebuslaw19.HashFinds'. -/
def hashFindsUptoCard : Claim7 := { stood := { row := hashFindsUptoRow, standIns := [], harness := (true, "99faacfe47776fbfb59fc3cfda90e73a6726cacf1e29f957faaf52983a7166dc"), looks := true }, kinds := [], alts := [], laidByText := true, laidKinds := [.data], laidTests := true, laidLooks := .later }
def HashFindsUptoCardSaid : Prop := Claim7.holds Tryz.pinned (.plain (OpenSpec.upto hashFindsSpec)) hashFindsUptoCard

/-- THE SECOND FORM's CARD OF 'rebuslaw19.HashFirsts'. -/
def hashFirstsUptoCard : Claim7 := { stood := { row := hashFirstsUptoRow, standIns := [], harness := (true, "99faacfe47776fbfb59fc3cfda90e73a6726cacf1e29f957faaf52983a7166dc"), looks := true }, kinds := [], alts := [], laidByText := true, laidKinds := [.data], laidTests := true, laidLooks := .later }
def HashFirstsUptoCardSaid : Prop := Claim7.holds Tryz.pinned (.plain (OpenSpec.upto hashFirstsSpec)) hashFirstsUptoCard

/-- THE SECOND FORM's CARD OF 'rebuslaw19.HashKeys'. -/
def hashKeysUptoCard : Claim7 := { stood := { row := hashKeysUptoRow, standIns := [], harness := (true, "99faacfe47776fbfb59fc3cfda90e73a6726cacf1e29f957faaf52983a7166dc"), looks := true }, kinds := [], alts := [], laidByText := true, laidKinds := [.data], laidTests := true, laidLooks := .later }
def HashKeysUptoCardSaid : Prop := Claim7.holds Tryz.pinned (.plain (OpenSpec.upto hashKeysSpec)) hashKeysUptoCard
end Rows
end Go.Proofs.YtbdhibcbpgjbmaaGreatDoor

/-
  No cell of these rows narrows 'for every input' (looked for: loops, veiled, ifaces, maps, wideKeys, modest, calm, conditions, laid).
  DERIVED. THE GIVEN ROWS OF THIS SEAT. 7 by the template 'for every input the law returns true; each argument reads behind the call as it read before'; 0 by the template 'total and deterministic' (their statements: YtlgdkpiaibhpjaaTotals.lean).
  GIVEN WITH THE SEED: the statements are not yours to turn. If you find one false, say at which input.
  Laid BY PROGRAM, IN A SANDBOX (cutbox-rows.mjs): the forced cells as the released guide's own fill.sh prints them over the translation 41162b13caf2488c… (all of the seat's roots in one cut). By AI agents, Wed Nov 11 2026. No macro, syntax, notation, axiom, sorry.
-/
import Derived.Test.YtlgdkpiaibhpjaaChecked
import GoSem.Claim
import GoSem.ClaimJoined
import GoSem.ClaimMapViews
import Derived.JoinedTies
import Derived.KernelRfl
namespace Go.Proofs.Ytlgdkpiaibhpjaa
/- THE CELL 'sum', in the pinned program and in every row, IS THE sha256 OF THE DUMP (.gsa) THAT YtlgdkpiaibhpjaaProg.lean LOADS. Nothing in Lean hashes anything: it is a label: what it is worth is what the hold of that sum in a sandbox is worth. -/
noncomputable def Try.pinned : Pinned := { name := "ytlgdkpiaibhpjaa", sum := "41162b13caf2488cc9c5a2e56cc0470deff97f76907574cf02407a822eb756d4", checked := Try.checked }
namespace Rows
def none {H : Type} : Left H := { results := [], args := [] }

/-- 'rebuslaw03.NumTidy': WHATEVER THE INPUT: true; the input reads as it did. -/
def numTidySpec : ChangeSpec := { name := "numTidy", fn := fun _ => fun
  | [d] => { results := [.lit (.bool true)], args := [d] }
  | _ => none }
def numTidyRow : OpenClaim := { program := "ytlgdkpiaibhpjaa", sum := "41162b13caf2488cc9c5a2e56cc0470deff97f76907574cf02407a822eb756d4", func := "rebus/rebuslaw03.NumTidy", spec := "numTidy", inPlace := ["math.Float64bits", "math.Float64frombits", "math.archTrunc"], apart := false }
def NumTidySaid : Prop := numTidyRow.holds Try.pinned (OpenSpec.ofChange numTidySpec)

/-- ITS FALSE NEIGHBOUR: 'it returns false'. Refute it at one input. -/
def numTidyWrong : ChangeSpec := { name := "numTidy", fn := fun _ => fun
  | [d] => { results := [.lit (.bool false)], args := [d] }
  | _ => none }
def NumTidyWrongFalsely : Prop := numTidyRow.holds Try.pinned (OpenSpec.ofChange numTidyWrong)

/-- 'rebuslaw03.NumWhole': WHATEVER THE INPUT: true; the input reads as it did. -/
def numWholeSpec : ChangeSpec := { name := "numWhole", fn := fun _ => fun
  | [d1, d2] => { results := [.lit (.bool true)], args := [d1, d2] }
  | _ => none }
def numWholeRow : OpenClaim := { program := "ytlgdkpiaibhpjaa", sum := "41162b13caf2488cc9c5a2e56cc0470deff97f76907574cf02407a822eb756d4", func := "rebus/rebuslaw03.NumWhole", spec := "numWhole", inPlace := ["math.archTrunc", "math.Float64bits", "math.Float64frombits"], apart := false }
def NumWholeSaid : Prop := numWholeRow.holds Try.pinned (OpenSpec.ofChange numWholeSpec)

/-- ITS FALSE NEIGHBOUR: 'it returns false'. Refute it at one input. -/
def numWholeWrong : ChangeSpec := { name := "numWhole", fn := fun _ => fun
  | [d1, d2] => { results := [.lit (.bool false)], args := [d1, d2] }
  | _ => none }
def NumWholeWrongFalsely : Prop := numWholeRow.holds Try.pinned (OpenSpec.ofChange numWholeWrong)

/-- 'rebuslaw03.NumReckons': WHATEVER THE INPUT: true; the input reads as it did. -/
def numReckonsSpec : ChangeSpec := { name := "numReckons", fn := fun _ => fun
  | [d1, d2] => { results := [.lit (.bool true)], args := [d1, d2] }
  | _ => none }
def numReckonsRow : OpenClaim := { program := "ytlgdkpiaibhpjaa", sum := "41162b13caf2488cc9c5a2e56cc0470deff97f76907574cf02407a822eb756d4", func := "rebus/rebuslaw03.NumReckons", spec := "numReckons", inPlace := ["math.archTrunc", "math.Float64bits", "math.Float64frombits"], apart := false }
def NumReckonsSaid : Prop := numReckonsRow.holds Try.pinned (OpenSpec.ofChange numReckonsSpec)

/-- ITS FALSE NEIGHBOUR: 'it returns false'. Refute it at one input. -/
def numReckonsWrong : ChangeSpec := { name := "numReckons", fn := fun _ => fun
  | [d1, d2] => { results := [.lit (.bool false)], args := [d1, d2] }
  | _ => none }
def NumReckonsWrongFalsely : Prop := numReckonsRow.holds Try.pinned (OpenSpec.ofChange numReckonsWrong)

/-- 'rebuslaw03.NumSides': WHATEVER THE INPUT: true; the input reads as it did. -/
def numSidesSpec : ChangeSpec := { name := "numSides", fn := fun _ => fun
  | [d1, d2] => { results := [.lit (.bool true)], args := [d1, d2] }
  | _ => none }
def numSidesRow : OpenClaim := { program := "ytlgdkpiaibhpjaa", sum := "41162b13caf2488cc9c5a2e56cc0470deff97f76907574cf02407a822eb756d4", func := "rebus/rebuslaw03.NumSides", spec := "numSides", inPlace := ["math.archTrunc", "math.Float64bits", "math.Float64frombits", "math.archFloor", "math.archCeil"], apart := false }
def NumSidesSaid : Prop := numSidesRow.holds Try.pinned (OpenSpec.ofChange numSidesSpec)

/-- ITS FALSE NEIGHBOUR: 'it returns false'. Refute it at one input. -/
def numSidesWrong : ChangeSpec := { name := "numSides", fn := fun _ => fun
  | [d1, d2] => { results := [.lit (.bool false)], args := [d1, d2] }
  | _ => none }
def NumSidesWrongFalsely : Prop := numSidesRow.holds Try.pinned (OpenSpec.ofChange numSidesWrong)

/-- 'rebuslaw03.NumRests': WHATEVER THE INPUT: true; the input reads as it did. -/
def numRestsSpec : ChangeSpec := { name := "numRests", fn := fun _ => fun
  | [d1, d2, d3, d4] => { results := [.lit (.bool true)], args := [d1, d2, d3, d4] }
  | _ => none }
def numRestsRow : OpenClaim := { program := "ytlgdkpiaibhpjaa", sum := "41162b13caf2488cc9c5a2e56cc0470deff97f76907574cf02407a822eb756d4", func := "rebus/rebuslaw03.NumRests", spec := "numRests", inPlace := ["math.archTrunc", "math.Float64bits", "math.Float64frombits"], apart := false }
def NumRestsSaid : Prop := numRestsRow.holds Try.pinned (OpenSpec.ofChange numRestsSpec)

/-- ITS FALSE NEIGHBOUR: 'it returns false'. Refute it at one input. -/
def numRestsWrong : ChangeSpec := { name := "numRests", fn := fun _ => fun
  | [d1, d2, d3, d4] => { results := [.lit (.bool false)], args := [d1, d2, d3, d4] }
  | _ => none }
def NumRestsWrongFalsely : Prop := numRestsRow.holds Try.pinned (OpenSpec.ofChange numRestsWrong)

/-- 'rebuslaw03.NumPowers': WHATEVER THE INPUT: true; the input reads as it did. -/
def numPowersSpec : ChangeSpec := { name := "numPowers", fn := fun _ => fun
  | [d1, d2] => { results := [.lit (.bool true)], args := [d1, d2] }
  | _ => none }
def numPowersRow : OpenClaim := { program := "ytlgdkpiaibhpjaa", sum := "41162b13caf2488cc9c5a2e56cc0470deff97f76907574cf02407a822eb756d4", func := "rebus/rebuslaw03.NumPowers", spec := "numPowers", inPlace := ["math.archTrunc", "math.Float64bits", "math.Float64frombits"], apart := false }
def NumPowersSaid : Prop := numPowersRow.holds Try.pinned (OpenSpec.ofChange numPowersSpec)

/-- ITS FALSE NEIGHBOUR: 'it returns false'. Refute it at one input. -/
def numPowersWrong : ChangeSpec := { name := "numPowers", fn := fun _ => fun
  | [d1, d2] => { results := [.lit (.bool false)], args := [d1, d2] }
  | _ => none }
def NumPowersWrongFalsely : Prop := numPowersRow.holds Try.pinned (OpenSpec.ofChange numPowersWrong)

/-- 'rebuslaw03.NumTurns': WHATEVER THE INPUT: true; the input reads as it did. -/
def numTurnsSpec : ChangeSpec := { name := "numTurns", fn := fun _ => fun
  | [d1, d2] => { results := [.lit (.bool true)], args := [d1, d2] }
  | _ => none }
def numTurnsRow : OpenClaim := { program := "ytlgdkpiaibhpjaa", sum := "41162b13caf2488cc9c5a2e56cc0470deff97f76907574cf02407a822eb756d4", func := "rebus/rebuslaw03.NumTurns", spec := "numTurns", inPlace := ["math.archTrunc", "math.Float64bits", "math.Float64frombits"], apart := false }
def NumTurnsSaid : Prop := numTurnsRow.holds Try.pinned (OpenSpec.ofChange numTurnsSpec)

/-- ITS FALSE NEIGHBOUR: 'it returns false'. Refute it at one input. -/
def numTurnsWrong : ChangeSpec := { name := "numTurns", fn := fun _ => fun
  | [d1, d2] => { results := [.lit (.bool false)], args := [d1, d2] }
  | _ => none }
def NumTurnsWrongFalsely : Prop := numTurnsRow.holds Try.pinned (OpenSpec.ofChange numTurnsWrong)

/- THE SECOND FORM. 'bulk': how many values and letters a reading holds, each counted each time it is reached (what is shared counts as often as it is met; a slice's spare places count too). A statement '..UptoSaid' is the law's where the arguments, and the package variables that the reading takes, are together of bulk at most 1048576: NARROWER than '..Said'. Prove '..Said' where nothing that the law and all that it calls make is longer than what came in: it says more and counts as full. Else prove '..UptoSaid'. A law counts once. -/
mutual
def uptoBulk {H : Type} : DataW H → Nat
  | .lit (.string bytes) => bytes.length + 1
  | .lit _ => 1
  | .nil => 1
  | .ptr d => uptoBulk d + 1
  | .slice elems spare => uptoBulkAll elems + uptoBulkAll spare + 1
  | .agg parts => uptoBulkAll parts + 1
  | .iface _ d => uptoBulk d + 1
  | .map entries => uptoBulkEntries entries + 1
  | .held _ => 1
def uptoBulkAll {H : Type} : List (DataW H) → Nat
  | [] => 0
  | d :: r => uptoBulk d + uptoBulkAll r
def uptoBulkEntries {H : Type} : List (Lit × DataW H) → Nat
  | [] => 0
  | x :: r => uptoBulkEntry x + uptoBulkEntries r
def uptoBulkEntry {H : Type} : Lit × DataW H → Nat
  | (.string bytes, d) => bytes.length + uptoBulk d + 1
  | (_, d) => uptoBulk d + 1
 end
def uptoSmall : (H : Type) → List (DataW H) → Bool := fun _ ds => decide (uptoBulkAll ds ≤ 1048576)
def OpenSpec.upto (s : _root_.Go.ChangeSpec) : _root_.Go.OpenSpec := { _root_.Go.OpenSpec.ofChange s with cond := some uptoSmall }

/-- 'rebuslaw03.NumTidy', WHERE WHAT IT READS IS OF BULK AT MOST 1048576: true; the input reads as it did. -/
def numTidyUptoRow : OpenClaim := { program := "ytlgdkpiaibhpjaa", sum := "41162b13caf2488cc9c5a2e56cc0470deff97f76907574cf02407a822eb756d4", func := "rebus/rebuslaw03.NumTidy", spec := "numTidy", inPlace := ["math.Float64bits", "math.Float64frombits", "math.archTrunc"], apart := false, narrowed := true }
def NumTidyUptoSaid : Prop := numTidyUptoRow.holds Try.pinned (OpenSpec.upto numTidySpec)

/-- 'rebuslaw03.NumWhole', WHERE WHAT IT READS IS OF BULK AT MOST 1048576: true; the input reads as it did. -/
def numWholeUptoRow : OpenClaim := { program := "ytlgdkpiaibhpjaa", sum := "41162b13caf2488cc9c5a2e56cc0470deff97f76907574cf02407a822eb756d4", func := "rebus/rebuslaw03.NumWhole", spec := "numWhole", inPlace := ["math.archTrunc", "math.Float64bits", "math.Float64frombits"], apart := false, narrowed := true }
def NumWholeUptoSaid : Prop := numWholeUptoRow.holds Try.pinned (OpenSpec.upto numWholeSpec)

/-- 'rebuslaw03.NumReckons', WHERE WHAT IT READS IS OF BULK AT MOST 1048576: true; the input reads as it did. -/
def numReckonsUptoRow : OpenClaim := { program := "ytlgdkpiaibhpjaa", sum := "41162b13caf2488cc9c5a2e56cc0470deff97f76907574cf02407a822eb756d4", func := "rebus/rebuslaw03.NumReckons", spec := "numReckons", inPlace := ["math.archTrunc", "math.Float64bits", "math.Float64frombits"], apart := false, narrowed := true }
def NumReckonsUptoSaid : Prop := numReckonsUptoRow.holds Try.pinned (OpenSpec.upto numReckonsSpec)

/-- 'rebuslaw03.NumSides', WHERE WHAT IT READS IS OF BULK AT MOST 1048576: true; the input reads as it did. -/
def numSidesUptoRow : OpenClaim := { program := "ytlgdkpiaibhpjaa", sum := "41162b13caf2488cc9c5a2e56cc0470deff97f76907574cf02407a822eb756d4", func := "rebus/rebuslaw03.NumSides", spec := "numSides", inPlace := ["math.archTrunc", "math.Float64bits", "math.Float64frombits", "math.archFloor", "math.archCeil"], apart := false, narrowed := true }
def NumSidesUptoSaid : Prop := numSidesUptoRow.holds Try.pinned (OpenSpec.upto numSidesSpec)

/-- 'rebuslaw03.NumRests', WHERE WHAT IT READS IS OF BULK AT MOST 1048576: true; the input reads as it did. -/
def numRestsUptoRow : OpenClaim := { program := "ytlgdkpiaibhpjaa", sum := "41162b13caf2488cc9c5a2e56cc0470deff97f76907574cf02407a822eb756d4", func := "rebus/rebuslaw03.NumRests", spec := "numRests", inPlace := ["math.archTrunc", "math.Float64bits", "math.Float64frombits"], apart := false, narrowed := true }
def NumRestsUptoSaid : Prop := numRestsUptoRow.holds Try.pinned (OpenSpec.upto numRestsSpec)

/-- 'rebuslaw03.NumPowers', WHERE WHAT IT READS IS OF BULK AT MOST 1048576: true; the input reads as it did. -/
def numPowersUptoRow : OpenClaim := { program := "ytlgdkpiaibhpjaa", sum := "41162b13caf2488cc9c5a2e56cc0470deff97f76907574cf02407a822eb756d4", func := "rebus/rebuslaw03.NumPowers", spec := "numPowers", inPlace := ["math.archTrunc", "math.Float64bits", "math.Float64frombits"], apart := false, narrowed := true }
def NumPowersUptoSaid : Prop := numPowersUptoRow.holds Try.pinned (OpenSpec.upto numPowersSpec)

/-- 'rebuslaw03.NumTurns', WHERE WHAT IT READS IS OF BULK AT MOST 1048576: true; the input reads as it did. -/
def numTurnsUptoRow : OpenClaim := { program := "ytlgdkpiaibhpjaa", sum := "41162b13caf2488cc9c5a2e56cc0470deff97f76907574cf02407a822eb756d4", func := "rebus/rebuslaw03.NumTurns", spec := "numTurns", inPlace := ["math.archTrunc", "math.Float64bits", "math.Float64frombits"], apart := false, narrowed := true }
def NumTurnsUptoSaid : Prop := numTurnsUptoRow.holds Try.pinned (OpenSpec.upto numTurnsSpec)

end Rows
end Go.Proofs.Ytlgdkpiaibhpjaa

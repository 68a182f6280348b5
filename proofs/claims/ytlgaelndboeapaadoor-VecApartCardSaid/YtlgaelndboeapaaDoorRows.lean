/-
  NARROWER THAN 'FOR EVERY INPUT', by the rows' own cells (each row's printed sentence says how): VecBits: laid · VecNumbers: laid · VecChars: laid · VecBoxes: laid · VecApart: laid.
  DERIVED. THE GIVEN ROWS OF THIS SEAT. 5 by the template 'for every input the law returns true; each argument reads behind the call as it read before'; 0 by the template 'total and deterministic' (their statements: YtlgaelndboeapaaDoorTotals.lean).
  GIVEN WITH THE SEED: the statements are not yours to turn. If you find one false, say at which input.
  Laid BY PROGRAM, IN A SANDBOX (cutbox-rows.mjs): the forced cells as the released guide's own fill.sh prints them over the translation 2d4408d4718d7328… (all of the seat's roots in one cut). By AI agents, Wed Nov 11 2026. No macro, syntax, notation, axiom, sorry.
-/
import Derived.Test.YtlgaelndboeapaaDoorChecked
import GoSem.Claim
import GoSem.ClaimJoined
import GoSem.ClaimMapViews
import Derived.JoinedTies
import Derived.KernelRfl
namespace Go.Proofs.YtlgaelndboeapaaDoor
/- THE CELL 'sum', in the pinned program and in every row, IS THE sha256 OF THE DUMP (.gsa) THAT YtlgaelndboeapaaDoorProg.lean LOADS. Nothing in Lean hashes anything: it is a label: what it is worth is what the hold of that sum in a sandbox is worth. -/
noncomputable def Tryd.pinned : Pinned := { name := "ytlgaelndboeapaadoor", sum := "2d4408d4718d732847326462d6f38762076855e7a202915df7738dee47ec9dc5", checked := Tryd.checked }
namespace Rows
def none {H : Type} : Left H := { results := [], args := [] }

/- WHAT THE LISTED PACKAGE-LEVEL VARIABLES READ AS WHEN THE CALL BEGINS. Each datum BY PROGRAM (the guide's laid-datum.mjs) off the statement by which the dump's own 'gosem.cut.vars' lays the variable. In a bare row this is a premise. The card (YtlgaelndboeapaaDoorCards.lean) ties it to the program's text. -/
def laid_math_bits_deBruijn64tab {H : Type} : DataW H := .agg [.lit (.int .u8 0), .lit (.int .u8 1), .lit (.int .u8 56), .lit (.int .u8 2), .lit (.int .u8 57), .lit (.int .u8 49), .lit (.int .u8 28), .lit (.int .u8 3), .lit (.int .u8 61), .lit (.int .u8 58), .lit (.int .u8 42), .lit (.int .u8 50), .lit (.int .u8 38), .lit (.int .u8 29), .lit (.int .u8 17), .lit (.int .u8 4), .lit (.int .u8 62), .lit (.int .u8 47), .lit (.int .u8 59), .lit (.int .u8 36), .lit (.int .u8 45), .lit (.int .u8 43), .lit (.int .u8 51), .lit (.int .u8 22), .lit (.int .u8 53), .lit (.int .u8 39), .lit (.int .u8 33), .lit (.int .u8 30), .lit (.int .u8 24), .lit (.int .u8 18), .lit (.int .u8 12), .lit (.int .u8 5), .lit (.int .u8 63), .lit (.int .u8 55), .lit (.int .u8 48), .lit (.int .u8 27), .lit (.int .u8 60), .lit (.int .u8 41), .lit (.int .u8 37), .lit (.int .u8 16), .lit (.int .u8 46), .lit (.int .u8 35), .lit (.int .u8 44), .lit (.int .u8 21), .lit (.int .u8 52), .lit (.int .u8 32), .lit (.int .u8 23), .lit (.int .u8 11), .lit (.int .u8 54), .lit (.int .u8 26), .lit (.int .u8 40), .lit (.int .u8 15), .lit (.int .u8 34), .lit (.int .u8 20), .lit (.int .u8 31), .lit (.int .u8 10), .lit (.int .u8 25), .lit (.int .u8 14), .lit (.int .u8 19), .lit (.int .u8 9), .lit (.int .u8 13), .lit (.int .u8 8), .lit (.int .u8 7), .lit (.int .u8 6)]

/-- 'rebuslaw04.VecBits': WHATEVER THE INPUT: true; the input reads as it did. -/
def vecBitsSpec : ChangeSpec := { name := "vecBits", fn := fun _ => fun
  | [d1, d2] => { results := [.lit (.bool true)], args := [d1, d2] }
  | _ => none }
def vecBitsRow : OpenClaim := { program := "ytlgaelndboeapaadoor", sum := "2d4408d4718d732847326462d6f38762076855e7a202915df7738dee47ec9dc5", func := "rebus/rebuslaw04.VecBits", spec := "vecBits", named := ["math/bits.deBruijn64tab"], apart := false, laid := [("math/bits.deBruijn64tab", laid_math_bits_deBruijn64tab)] }
def VecBitsSaid : Prop := vecBitsRow.holds Tryd.pinned (OpenSpec.ofChange vecBitsSpec)

/-- ITS FALSE NEIGHBOUR: 'it returns false'. Refute it at one input. -/
def vecBitsWrong : ChangeSpec := { name := "vecBits", fn := fun _ => fun
  | [d1, d2] => { results := [.lit (.bool false)], args := [d1, d2] }
  | _ => none }
def VecBitsWrongFalsely : Prop := vecBitsRow.holds Tryd.pinned (OpenSpec.ofChange vecBitsWrong)

/-- 'rebuslaw04.VecNumbers': WHATEVER THE INPUT: true; the input reads as it did. -/
def vecNumbersSpec : ChangeSpec := { name := "vecNumbers", fn := fun _ => fun
  | [d1, d2] => { results := [.lit (.bool true)], args := [d1, d2] }
  | _ => none }
def vecNumbersRow : OpenClaim := { program := "ytlgaelndboeapaadoor", sum := "2d4408d4718d732847326462d6f38762076855e7a202915df7738dee47ec9dc5", func := "rebus/rebuslaw04.VecNumbers", spec := "vecNumbers", inPlace := ["math.Float64bits", "math.Float64frombits"], named := ["math/bits.deBruijn64tab"], apart := false, laid := [("math/bits.deBruijn64tab", laid_math_bits_deBruijn64tab)] }
def VecNumbersSaid : Prop := vecNumbersRow.holds Tryd.pinned (OpenSpec.ofChange vecNumbersSpec)

/-- ITS FALSE NEIGHBOUR: 'it returns false'. Refute it at one input. -/
def vecNumbersWrong : ChangeSpec := { name := "vecNumbers", fn := fun _ => fun
  | [d1, d2] => { results := [.lit (.bool false)], args := [d1, d2] }
  | _ => none }
def VecNumbersWrongFalsely : Prop := vecNumbersRow.holds Tryd.pinned (OpenSpec.ofChange vecNumbersWrong)

/-- 'rebuslaw04.VecChars': WHATEVER THE INPUT: true; the input reads as it did. -/
def vecCharsSpec : ChangeSpec := { name := "vecChars", fn := fun _ => fun
  | [d1, d2, d3] => { results := [.lit (.bool true)], args := [d1, d2, d3] }
  | _ => none }
def vecCharsRow : OpenClaim := { program := "ytlgaelndboeapaadoor", sum := "2d4408d4718d732847326462d6f38762076855e7a202915df7738dee47ec9dc5", func := "rebus/rebuslaw04.VecChars", spec := "vecChars", named := ["math/bits.deBruijn64tab"], apart := false, laid := [("math/bits.deBruijn64tab", laid_math_bits_deBruijn64tab)] }
def VecCharsSaid : Prop := vecCharsRow.holds Tryd.pinned (OpenSpec.ofChange vecCharsSpec)

/-- ITS FALSE NEIGHBOUR: 'it returns false'. Refute it at one input. -/
def vecCharsWrong : ChangeSpec := { name := "vecChars", fn := fun _ => fun
  | [d1, d2, d3] => { results := [.lit (.bool false)], args := [d1, d2, d3] }
  | _ => none }
def VecCharsWrongFalsely : Prop := vecCharsRow.holds Tryd.pinned (OpenSpec.ofChange vecCharsWrong)

/-- 'rebuslaw04.VecBoxes': WHATEVER THE INPUT: true; the input reads as it did. -/
def vecBoxesSpec : ChangeSpec := { name := "vecBoxes", fn := fun _ => fun
  | [d1, d2] => { results := [.lit (.bool true)], args := [d1, d2] }
  | _ => none }
def vecBoxesRow : OpenClaim := { program := "ytlgaelndboeapaadoor", sum := "2d4408d4718d732847326462d6f38762076855e7a202915df7738dee47ec9dc5", func := "rebus/rebuslaw04.VecBoxes", spec := "vecBoxes", named := ["math/bits.deBruijn64tab"], apart := false, laid := [("math/bits.deBruijn64tab", laid_math_bits_deBruijn64tab)] }
def VecBoxesSaid : Prop := vecBoxesRow.holds Tryd.pinned (OpenSpec.ofChange vecBoxesSpec)

/-- ITS FALSE NEIGHBOUR: 'it returns false'. Refute it at one input. -/
def vecBoxesWrong : ChangeSpec := { name := "vecBoxes", fn := fun _ => fun
  | [d1, d2] => { results := [.lit (.bool false)], args := [d1, d2] }
  | _ => none }
def VecBoxesWrongFalsely : Prop := vecBoxesRow.holds Tryd.pinned (OpenSpec.ofChange vecBoxesWrong)

/-- 'rebuslaw04.VecApart': WHATEVER THE INPUT: true; the input reads as it did. -/
def vecApartSpec : ChangeSpec := { name := "vecApart", fn := fun _ => fun
  | [d1, d2, d3] => { results := [.lit (.bool true)], args := [d1, d2, d3] }
  | _ => none }
def vecApartRow : OpenClaim := { program := "ytlgaelndboeapaadoor", sum := "2d4408d4718d732847326462d6f38762076855e7a202915df7738dee47ec9dc5", func := "rebus/rebuslaw04.VecApart", spec := "vecApart", named := ["math/bits.deBruijn64tab"], apart := false, laid := [("math/bits.deBruijn64tab", laid_math_bits_deBruijn64tab)] }
def VecApartSaid : Prop := vecApartRow.holds Tryd.pinned (OpenSpec.ofChange vecApartSpec)

/-- ITS FALSE NEIGHBOUR: 'it returns false'. Refute it at one input. -/
def vecApartWrong : ChangeSpec := { name := "vecApart", fn := fun _ => fun
  | [d1, d2, d3] => { results := [.lit (.bool false)], args := [d1, d2, d3] }
  | _ => none }
def VecApartWrongFalsely : Prop := vecApartRow.holds Tryd.pinned (OpenSpec.ofChange vecApartWrong)

/- THE SECOND FORM. 'bulk': how many values and letters a reading holds, each counted each time it is reached (what is shared counts as often as it is met; a slice's spare places count too). A statement '..UptoSaid' is the law's where the arguments, and the package variables that the reading takes, are together of bulk at most 1048576: NARROWER than '..Said'. Prove '..Said' where nothing that the law and all that it calls make is longer than what came in: it says more and counts as full. Else prove '..UptoSaid'. A law counts once. -/
mutual
def uptoBulk {H : Type} : DataW H → Nat
  | .lit (.string bytes) => bytes.length + 1
  | .lit _ => 1
  | .nil => 1
  | .ptr d => uptoBulk d + 1
  | .slice elems spare => uptoBulkAll elems + uptoBulkAll spare + 1
  | .agg parts => uptoBulkAll parts + 1
  | .iface _ d => uptoBulk d + 1
  | .map entries => uptoBulkEntries entries + 1
  | .held _ => 1
def uptoBulkAll {H : Type} : List (DataW H) → Nat
  | [] => 0
  | d :: r => uptoBulk d + uptoBulkAll r
def uptoBulkEntries {H : Type} : List (Lit × DataW H) → Nat
  | [] => 0
  | x :: r => uptoBulkEntry x + uptoBulkEntries r
def uptoBulkEntry {H : Type} : Lit × DataW H → Nat
  | (.string bytes, d) => bytes.length + uptoBulk d + 1
  | (_, d) => uptoBulk d + 1
 end
def uptoSmall : (H : Type) → List (DataW H) → Bool := fun _ ds => decide (uptoBulkAll ds ≤ 1048576)
def OpenSpec.upto (s : _root_.Go.ChangeSpec) : _root_.Go.OpenSpec := { _root_.Go.OpenSpec.ofChange s with cond := some uptoSmall }

/-- 'rebuslaw04.VecBits', WHERE WHAT IT READS IS OF BULK AT MOST 1048576: true; the input reads as it did. -/
def vecBitsUptoRow : OpenClaim := { program := "ytlgaelndboeapaadoor", sum := "2d4408d4718d732847326462d6f38762076855e7a202915df7738dee47ec9dc5", func := "rebus/rebuslaw04.VecBits", spec := "vecBits", named := ["math/bits.deBruijn64tab"], apart := false, laid := [("math/bits.deBruijn64tab", laid_math_bits_deBruijn64tab)], narrowed := true }
def VecBitsUptoSaid : Prop := vecBitsUptoRow.holds Tryd.pinned (OpenSpec.upto vecBitsSpec)

/-- 'rebuslaw04.VecNumbers', WHERE WHAT IT READS IS OF BULK AT MOST 1048576: true; the input reads as it did. -/
def vecNumbersUptoRow : OpenClaim := { program := "ytlgaelndboeapaadoor", sum := "2d4408d4718d732847326462d6f38762076855e7a202915df7738dee47ec9dc5", func := "rebus/rebuslaw04.VecNumbers", spec := "vecNumbers", inPlace := ["math.Float64bits", "math.Float64frombits"], named := ["math/bits.deBruijn64tab"], apart := false, laid := [("math/bits.deBruijn64tab", laid_math_bits_deBruijn64tab)], narrowed := true }
def VecNumbersUptoSaid : Prop := vecNumbersUptoRow.holds Tryd.pinned (OpenSpec.upto vecNumbersSpec)

/-- 'rebuslaw04.VecChars', WHERE WHAT IT READS IS OF BULK AT MOST 1048576: true; the input reads as it did. -/
def vecCharsUptoRow : OpenClaim := { program := "ytlgaelndboeapaadoor", sum := "2d4408d4718d732847326462d6f38762076855e7a202915df7738dee47ec9dc5", func := "rebus/rebuslaw04.VecChars", spec := "vecChars", named := ["math/bits.deBruijn64tab"], apart := false, laid := [("math/bits.deBruijn64tab", laid_math_bits_deBruijn64tab)], narrowed := true }
def VecCharsUptoSaid : Prop := vecCharsUptoRow.holds Tryd.pinned (OpenSpec.upto vecCharsSpec)

/-- 'rebuslaw04.VecBoxes', WHERE WHAT IT READS IS OF BULK AT MOST 1048576: true; the input reads as it did. -/
def vecBoxesUptoRow : OpenClaim := { program := "ytlgaelndboeapaadoor", sum := "2d4408d4718d732847326462d6f38762076855e7a202915df7738dee47ec9dc5", func := "rebus/rebuslaw04.VecBoxes", spec := "vecBoxes", named := ["math/bits.deBruijn64tab"], apart := false, laid := [("math/bits.deBruijn64tab", laid_math_bits_deBruijn64tab)], narrowed := true }
def VecBoxesUptoSaid : Prop := vecBoxesUptoRow.holds Tryd.pinned (OpenSpec.upto vecBoxesSpec)

/-- 'rebuslaw04.VecApart', WHERE WHAT IT READS IS OF BULK AT MOST 1048576: true; the input reads as it did. -/
def vecApartUptoRow : OpenClaim := { program := "ytlgaelndboeapaadoor", sum := "2d4408d4718d732847326462d6f38762076855e7a202915df7738dee47ec9dc5", func := "rebus/rebuslaw04.VecApart", spec := "vecApart", named := ["math/bits.deBruijn64tab"], apart := false, laid := [("math/bits.deBruijn64tab", laid_math_bits_deBruijn64tab)], narrowed := true }
def VecApartUptoSaid : Prop := vecApartUptoRow.holds Tryd.pinned (OpenSpec.upto vecApartSpec)

end Rows
end Go.Proofs.YtlgaelndboeapaaDoor

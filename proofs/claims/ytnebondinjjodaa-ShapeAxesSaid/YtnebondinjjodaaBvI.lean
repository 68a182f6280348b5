/- Package bitvec: Len, At, Words, Tidy; slices.Clone. -/
import Derived.Test.YtnebondinjjodaaBvB
import Derived.Lib.SliceRun
namespace Go.Proofs.Ytnebondinjjodaa
open Go.RowKit
set_option linter.unusedVariables false

theorem bit_at (F : Nat → Bool) (q r : Nat) (hr : r < 64) : (bits BinOp.and IntKind.u64 ((bw F q : Int) / 2 ^ r) 1 == 1) = F (64 * q + r) := by
  have e : ((bw F q : Int) / 2 ^ r) = ((bw F q / 2 ^ r : Nat) : Int) := by simp
  have h : bw F q / 2 ^ r < 18446744073709551616 := Nat.lt_of_le_of_lt (Nat.div_le_self _ _) (bw_lt _ _)
  have t := testBit_bw F q r
  rw [decide_eq_true hr, Bool.true_and, Nat.testBit_eq_decide_div_mod_eq] at t
  rw [e, show (1 : Int) = ((1 : Nat) : Int) from rfl, u64_and_nat _ 1 h (by decide), nat_mask1, ← t, Bool.eq_iff_iff, beq_iff_eq, decide_eq_true_iff]
  omega
/-- Boolean i of a list, i a whole number. -/
def sqI (l : List Bool) (i : Int) : Bool := if 0 ≤ i then sq l i.toNat else false
theorem last_clean (l : List Bool) (L r : Nat) (hL : (l.length + 63) / 64 = L + 1) (hr : l.length % 64 = r) (hr0 : r ≠ 0) : ((bw (sq l) L : Int) / 2 ^ r == 0) = true := by
  have e : ((bw (sq l) L : Int) / 2 ^ r) = ((bw (sq l) L / 2 ^ r : Nat) : Int) := by simp
  have h0 : bw (sq l) L / 2 ^ r = 0 := by
    apply Nat.eq_of_testBit_eq
    intro j
    rw [← Nat.shiftRight_eq_div_pow, Nat.testBit_shiftRight, testBit_bw, sq_out (by omega)]
    simp
  rw [e, h0]; rfl
end Go.Proofs.Ytnebondinjjodaa

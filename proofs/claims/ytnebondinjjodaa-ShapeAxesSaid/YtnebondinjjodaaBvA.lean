/- Package bitvec: functions of plain numbers; the library's counts of bits. -/
import Derived.Test.YtnebondinjjodaaBvN
import Derived.Test.YtnebondinjjodaaRows
import Derived.WalkKit
import Derived.WalkSpells
import Derived.WalkLawsBesides
import Derived.Lib.Hide
import Derived.Laws.BitsAllLaws
import Derived.Laws.Bits64b
import Derived.Laws.Bits128
namespace Go.Proofs.Ytnebondinjjodaa
open Go.RowKit
set_option linter.unusedVariables false

theorem ret_i {k : IntKind} {a b : Int} (h : a = b) : Ending.returned (.int k a) = .returned (.int k b) := by rw [h]

theorem wrap_low (n : Nat) (h : n < 64) : IntKind.u64.wrap (IntKind.u64.wrap (2 ^ n) - 1) = ((2 ^ n - 1 : Nat) : Int) := by
  have h1 : (2 ^ n : Nat) ≤ 2 ^ 63 := Nat.pow_le_pow_right (by decide) (by omega)
  have h2 : 0 < (2 ^ n : Nat) := Nat.two_pow_pos n
  have e : ((2 : Int) ^ n) = ((2 ^ n : Nat) : Int) := by simp
  rw [e, IntKind.wrap_u64, IntKind.wrap_u64]
  generalize 2 ^ n = m at *
  omega
theorem sw1 (x : Nat) (h : x < 18446744073709551616) (h1 : swar1 x < 18446744073709551616) : IntKind.u64.wrap (bits BinOp.and IntKind.u64 (↑x / 2) 6148914691236517205 + bits BinOp.and IntKind.u64 (↑x) 6148914691236517205) = (swar1 x : Int) := by
  have e : ((x : Int) / 2) = ((x / 2 : Nat) : Int) := by omega
  have a := u64_and_nat (x / 2) 6148914691236517205 (by omega) (by decide)
  have b := u64_and_nat x 6148914691236517205 h (by decide)
  rw [e, show (6148914691236517205 : Int) = ((6148914691236517205 : Nat) : Int) from rfl, a, b, IntKind.wrap_u64]
  unfold swar1 at h1 ⊢
  omega
theorem sw2 (x : Nat) (h : x < 18446744073709551616) (h1 : swar2 x < 18446744073709551616) : IntKind.u64.wrap (bits BinOp.and IntKind.u64 (↑x / 4) 3689348814741910323 + bits BinOp.and IntKind.u64 (↑x) 3689348814741910323) = (swar2 x : Int) := by
  have e : ((x : Int) / 4) = ((x / 4 : Nat) : Int) := by omega
  have a := u64_and_nat (x / 4) 3689348814741910323 (by omega) (by decide)
  have b := u64_and_nat x 3689348814741910323 h (by decide)
  rw [e, show (3689348814741910323 : Int) = ((3689348814741910323 : Nat) : Int) from rfl, a, b, IntKind.wrap_u64]
  unfold swar2 at h1 ⊢
  omega
theorem sw3 (x : Nat) (h : x / 16 + x < 18446744073709551616) : bits BinOp.and IntKind.u64 (IntKind.u64.wrap (↑x / 16 + ↑x)) 1085102592571150095 = (swar3 x : Int) := by
  have e : IntKind.u64.wrap ((x : Int) / 16 + (x : Int)) = ((x / 16 + x : Nat) : Int) := by rw [IntKind.wrap_u64]; omega
  rw [e, show (1085102592571150095 : Int) = ((1085102592571150095 : Nat) : Int) from rfl, u64_and_nat _ _ h (by decide)]
  rfl
theorem sw4 (x : Nat) (h : swar4 x < 18446744073709551616) : IntKind.u64.wrap (↑x + ↑x / 256) = (swar4 x : Int) := by
  unfold swar4 at h ⊢; rw [IntKind.wrap_u64]; omega
theorem sw5 (x : Nat) (h : swar5 x < 18446744073709551616) : IntKind.u64.wrap (↑x + ↑x / 65536) = (swar5 x : Int) := by
  unfold swar5 at h ⊢; rw [IntKind.wrap_u64]; omega
theorem sw6 (x : Nat) (h : swar6 x < 9223372036854775808) : IntKind.u64.wrap (↑x + ↑x / 4294967296) = (swar6 x : Int) := by
  unfold swar6 at h ⊢; rw [IntKind.wrap_u64]; omega
theorem wrap_neg (x : Nat) (h : x < 18446744073709551616) : IntKind.u64.wrap (-(x : Int)) = (((18446744073709551616 - x) % 18446744073709551616 : Nat) : Int) := by
  rw [IntKind.wrap_u64]; omega
theorem tz_key (x a : Nat) (hx : x < 18446744073709551616) (hx0 : x ≠ 0) (hlow : x &&& (18446744073709551616 - x) = a) :
    IntKind.u64.wrap (bits BinOp.and IntKind.u64 (x : Int) (IntKind.u64.wrap (-(x : Int))) * 285870213051353865) / 288230376151711744 = ((a * 285870213051353865 % 18446744073709551616 / 288230376151711744 : Nat) : Int) := by
  have e1 : IntKind.u64.wrap (-(x : Int)) = ((18446744073709551616 - x : Nat) : Int) := by rw [IntKind.wrap_u64]; omega
  rw [e1, u64_and_nat x _ hx (by omega), hlow, IntKind.wrap_u64]
  omega
end Go.Proofs.Ytnebondinjjodaa

/- Package bitvec: functions of plain numbers; the library's counts of bits. -/
import Derived.Test.YtbdhibcbpgjbmaaGreatDoorBvN
import Derived.Test.YtbdhibcbpgjbmaaGreatDoorRows
import Derived.WalkKit
import Derived.WalkSpells
import Derived.WalkLawsBesides
import Derived.Lib.Hide
import Derived.Laws.BitsAllLaws
import Derived.Laws.Bits64b
import Derived.Laws.Bits128
namespace Go.Proofs.YtbdhibcbpgjbmaaGreatDoor
set_option maxRecDepth 100000
open Go.RowKit
set_option linter.unusedVariables false

theorem ret_i {k : IntKind} {a b : Int} (h : a = b) : Ending.returned (.int k a) = .returned (.int k b) := by rw [h]

set_option maxHeartbeats 400000 in
theorem clamp_calls (n most : Int) (w : World) :
    Calls Tryz.prog 123 #[.int .i64 n, .int .i64 most] w fun e w' => e = .returned (.int .i64 (min (max n 0) most)) ∧ w = w' := by
  by_cases h : n < 0
  · by_cases h2 : most < 0
    · go_enter Tryz.func123, Tryz.ntmps123
      go_wp2
      all_goals (go_ret; exact ⟨ret_i (by first | rfl | omega), rfl⟩)
    · go_enter Tryz.func123, Tryz.ntmps123
      go_wp2
      all_goals (go_ret; exact ⟨ret_i (by first | rfl | omega), rfl⟩)
  · by_cases h2 : most < n
    · go_enter Tryz.func123, Tryz.ntmps123
      go_wp2
      all_goals (go_ret; exact ⟨ret_i (by first | rfl | omega), rfl⟩)
    · go_enter Tryz.func123, Tryz.ntmps123
      go_wp2
      all_goals (go_ret; exact ⟨ret_i (by first | rfl | omega), rfl⟩)
set_option maxHeartbeats 400000 in
theorem wordsFor_calls (n : Nat) (h : n ≤ 2000000) (w : World) :
    Calls Tryz.prog 133 #[.int .i64 n] w fun e w' => e = .returned (.int .i64 ((n + 63) / 64 : Nat)) ∧ w = w' := by
  go_enter Tryz.func133, Tryz.ntmps133
  go_wp2
  go_ret
  exact ⟨ret_i (show ((n : Int) + 64 - 1) / 64 = _ by omega), rfl⟩
theorem wrap_low (n : Nat) (h : n < 64) : IntKind.u64.wrap (IntKind.u64.wrap (2 ^ n) - 1) = ((2 ^ n - 1 : Nat) : Int) := by
  have h1 : (2 ^ n : Nat) ≤ 2 ^ 63 := Nat.pow_le_pow_right (by decide) (by omega)
  have h2 : 0 < (2 ^ n : Nat) := Nat.two_pow_pos n
  have e : ((2 : Int) ^ n) = ((2 ^ n : Nat) : Int) := by simp
  rw [e, IntKind.wrap_u64, IntKind.wrap_u64]
  generalize 2 ^ n = m at *
  omega
set_option maxHeartbeats 400000 in
theorem low_nat (n : Nat) (h : n < 64) (w : World) :
    Calls Tryz.prog 142 #[.int .i64 n] w fun e w' => e = .returned (.int .u64 (2 ^ n - 1 : Nat)) ∧ w = w' := by
  go_enter Tryz.func142, Tryz.ntmps142
  go_wp2
  go_ret
  exact ⟨ret_i (wrap_low n h), rfl⟩
theorem low_calls (x : Int) (h0 : 0 ≤ x) (h : x < 64) (w : World) :
    Calls Tryz.prog 142 #[.int .i64 x] w fun e w' => e = .returned (.int .u64 (2 ^ x.toNat - 1 : Nat)) ∧ w = w' := by
  obtain ⟨n, rfl⟩ := Int.eq_ofNat_of_zero_le h0
  exact low_nat n (by omega) w
theorem sw1 (x : Nat) (h : x < 18446744073709551616) (h1 : swar1 x < 18446744073709551616) : IntKind.u64.wrap (bits BinOp.and IntKind.u64 (↑x / 2) 6148914691236517205 + bits BinOp.and IntKind.u64 (↑x) 6148914691236517205) = (swar1 x : Int) := by
  have e : ((x : Int) / 2) = ((x / 2 : Nat) : Int) := by omega
  have a := u64_and_nat (x / 2) 6148914691236517205 (by omega) (by decide)
  have b := u64_and_nat x 6148914691236517205 h (by decide)
  rw [e, show (6148914691236517205 : Int) = ((6148914691236517205 : Nat) : Int) from rfl, a, b, IntKind.wrap_u64]
  unfold swar1 at h1 ⊢
  omega
theorem sw2 (x : Nat) (h : x < 18446744073709551616) (h1 : swar2 x < 18446744073709551616) : IntKind.u64.wrap (bits BinOp.and IntKind.u64 (↑x / 4) 3689348814741910323 + bits BinOp.and IntKind.u64 (↑x) 3689348814741910323) = (swar2 x : Int) := by
  have e : ((x : Int) / 4) = ((x / 4 : Nat) : Int) := by omega
  have a := u64_and_nat (x / 4) 3689348814741910323 (by omega) (by decide)
  have b := u64_and_nat x 3689348814741910323 h (by decide)
  rw [e, show (3689348814741910323 : Int) = ((3689348814741910323 : Nat) : Int) from rfl, a, b, IntKind.wrap_u64]
  unfold swar2 at h1 ⊢
  omega
theorem sw3 (x : Nat) (h : x / 16 + x < 18446744073709551616) : bits BinOp.and IntKind.u64 (IntKind.u64.wrap (↑x / 16 + ↑x)) 1085102592571150095 = (swar3 x : Int) := by
  have e : IntKind.u64.wrap ((x : Int) / 16 + (x : Int)) = ((x / 16 + x : Nat) : Int) := by rw [IntKind.wrap_u64]; omega
  rw [e, show (1085102592571150095 : Int) = ((1085102592571150095 : Nat) : Int) from rfl, u64_and_nat _ _ h (by decide)]
  rfl
theorem sw4 (x : Nat) (h : swar4 x < 18446744073709551616) : IntKind.u64.wrap (↑x + ↑x / 256) = (swar4 x : Int) := by
  unfold swar4 at h ⊢; rw [IntKind.wrap_u64]; omega
theorem sw5 (x : Nat) (h : swar5 x < 18446744073709551616) : IntKind.u64.wrap (↑x + ↑x / 65536) = (swar5 x : Int) := by
  unfold swar5 at h ⊢; rw [IntKind.wrap_u64]; omega
theorem sw6 (x : Nat) (h : swar6 x < 9223372036854775808) : IntKind.u64.wrap (↑x + ↑x / 4294967296) = (swar6 x : Int) := by
  unfold swar6 at h ⊢; rw [IntKind.wrap_u64]; omega
set_option maxHeartbeats 1000000 in
theorem onesCount_calls (x : Nat) (h : x < 18446744073709551616) (w : World) :
    Calls Tryz.prog 150 #[.int .u64 x] w fun e w' => e = .returned (.int .i64 (cnt x.testBit 64)) ∧ w = w' := by
  go_enter Tryz.func150, Tryz.ntmps150
  go_wp2
  go_ret
  obtain ⟨h1, h2, h3, h4, h5, h6, h7, h8⟩ := swar_all x h
  refine ⟨ret_i ?_, rfl⟩
  rw [sw1 x h h1, sw2 _ h1 h2, sw3 _ h3, sw4 _ h5, sw5 _ h6, sw6 _ h7]
  rw [i64_and127, IntWalk.wrap64_in _ (by omega)]
  omega
theorem wrap_neg (x : Nat) (h : x < 18446744073709551616) : IntKind.u64.wrap (-(x : Int)) = (((18446744073709551616 - x) % 18446744073709551616 : Nat) : Int) := by
  rw [IntKind.wrap_u64]; omega
set_option maxHeartbeats 1000000 in
theorem trailing_zero (w : World) :
    Calls Tryz.prog 135 #[.int .u64 0] w fun e w' => e = .returned (.int .i64 64) ∧ w = w' := by
  go_enter Tryz.func135, Tryz.ntmps135
  go_wp2
  go_ret
  exact ⟨rfl, rfl⟩
/-- The table in its variable. -/
def TabAt (w : World) : Prop := ∀ j, j < 64 → w.cell? ⟨1, j, none⟩ = some (.int .u8 (Lib.deBruijn64tab.getD j 0))
theorem tz_key (x a : Nat) (hx : x < 18446744073709551616) (hx0 : x ≠ 0) (hlow : x &&& (18446744073709551616 - x) = a) :
    IntKind.u64.wrap (bits BinOp.and IntKind.u64 (x : Int) (IntKind.u64.wrap (-(x : Int))) * 285870213051353865) / 288230376151711744 = ((a * 285870213051353865 % 18446744073709551616 / 288230376151711744 : Nat) : Int) := by
  have e1 : IntKind.u64.wrap (-(x : Int)) = ((18446744073709551616 - x : Nat) : Int) := by rw [IntKind.wrap_u64]; omega
  rw [e1, u64_and_nat x _ hx (by omega), hlow, IntKind.wrap_u64]
  omega
set_option maxHeartbeats 1000000 in
theorem trailing_core (x k idx : Nat) (w : World) (hx0 : ((x : Int) == 0) = false)
    (key : IntKind.u64.wrap (bits BinOp.and IntKind.u64 (x : Int) (IntKind.u64.wrap (-(x : Int))) * 285870213051353865) / 288230376151711744 = (idx : Int))
    (hi : idx < 64) (hk : k < 64) (hcell : w.cell? ⟨1, idx, none⟩ = some (.int .u8 k)) :
    Calls Tryz.prog 135 #[.int .u64 x] w fun e w' => e = .returned (.int .i64 k) ∧ w = w' := by
  go_enter Tryz.func135, Tryz.ntmps135
  go_wp2_with (simp only [key])
  go_ret
  exact ⟨rfl, rfl⟩
theorem trailing_calls (x : Nat) (hx : x < 18446744073709551616) (hx0 : x ≠ 0) (w : World) (hT : TabAt w) :
    Calls Tryz.prog 135 #[.int .u64 x] w fun e w' => e = .returned (.int .i64 (Lib.ctz 64 x)) ∧ w = w' := by
  obtain ⟨hlow, hk⟩ := Lib.lowest_bit 64 x hx0 hx
  obtain ⟨hi, htab⟩ := Lib.deBruijn64_at _ hk
  have hcell := hT _ hi
  rw [htab] at hcell
  exact trailing_core x _ _ w (by simp; omega) (tz_key x _ hx hx0 hlow) hi hk hcell
end Go.Proofs.YtbdhibcbpgjbmaaGreatDoor

/- Package bitvec: Len, At, Words, Tidy; slices.Clone. -/
import Derived.Test.YtbdhibcbpgjbmaaGreatDoorBvB
import Derived.Lib.SliceRun
namespace Go.Proofs.YtbdhibcbpgjbmaaGreatDoor
set_option maxRecDepth 100000
open Go.RowKit
set_option linter.unusedVariables false

set_option maxHeartbeats 400000 in
theorem len_calls (v : Value) (l : List Bool) (w : World) (hv : IsBits w v l) :
  Calls Tryz.prog 65 #[v] w fun e w' => e = .returned (.int .i64 (l.length : Nat)) ∧ Below w.heap.size w w' := by
 obtain ⟨ao, cap, rfl, _⟩ := hv.opened
 clear hv
 go_enter Tryz.func65, Tryz.ntmps65
 go_wp2
 go_ret
 exact ⟨rfl, (Below.refl _ _).alloc (Nat.le_refl _) _⟩

theorem bit_at (F : Nat → Bool) (q r : Nat) (hr : r < 64) : (bits BinOp.and IntKind.u64 ((bw F q : Int) / 2 ^ r) 1 == 1) = F (64 * q + r) := by
 have e : ((bw F q : Int) / 2 ^ r) = ((bw F q / 2 ^ r : Nat) : Int) := by simp
 have h : bw F q / 2 ^ r < 18446744073709551616 := Nat.lt_of_le_of_lt (Nat.div_le_self _ _) (bw_lt _ _)
 have t := testBit_bw F q r
 rw [decide_eq_true hr, Bool.true_and, Nat.testBit_eq_decide_div_mod_eq] at t
 rw [e, show (1 : Int) = ((1 : Nat) : Int) from rfl, u64_and_nat _ 1 h (by decide), nat_mask1, ← t, Bool.eq_iff_iff, beq_iff_eq, decide_eq_true_iff]
 omega
/-- Boolean i of a list, i a whole number. -/
def sqI (l : List Bool) (i : Int) : Bool := if 0 ≤ i then sq l i.toNat else false
set_option maxHeartbeats 1000000 in
theorem at_calls (v : Value) (l : List Bool) (i : Int) (w : World) (hv : IsBits w v l) (hl : l.length ≤ 1048576) :
  Calls Tryz.prog 93 #[v, .int .i64 i] w fun e w' => e = .returned (.bool (sqI l i)) ∧ Below w.heap.size w w' := by
 obtain ⟨ao, cap, rfl, hcells⟩ := hv.opened
 have HC := Lib.hid hcells; clear hv hcells
 by_cases h0 : i < 0
 ·have H := Lib.hid (show sqI l i = false by simp [sqI]; omega)
  go_enter Tryz.func93, Tryz.ntmps93
  go_wp2
  all_goals (go_ret; exact ⟨ret_b H.out.symm, (Below.refl _ _).alloc (Nat.le_refl _) _⟩)
 ·by_cases h1 : (l.length : Int) ≤ i
  ·have H := Lib.hid (show sqI l i = false by simp only [sqI]; split; exact sq_out (by omega); rfl)
   go_enter Tryz.func93, Tryz.ntmps93
   go_wp2
   all_goals (go_ret; exact ⟨ret_b H.out.symm, (Below.refl _ _).alloc (Nat.le_refl _) _⟩)
  ·obtain ⟨k, rfl⟩ := Int.eq_ofNat_of_zero_le (show 0 ≤ i by omega)
   obtain ⟨L, hL⟩ : ∃ L, (l.length + 63) / 64 = L := ⟨_, rfl⟩
   rw [hL] at HC ⊢
   obtain ⟨q, hq⟩ : ∃ q : Nat, (k : Int) / 64 = (q : Int) := ⟨k / 64, by omega⟩
   obtain ⟨r, hr⟩ : ∃ r : Nat, (k : Int) % 64 = (r : Int) := ⟨k % 64, by omega⟩
   have hqL : q < L := by omega
   have hr64 : r < 64 := by omega
   obtain ⟨b, off, rfl, hc⟩ := HC.out q hqL
   have hcl := keep_alloc w (.cells #[.int .i64 l.length, .slice (some ⟨b, off, none⟩) L cap] 81) _ _ hc
   have H := Lib.hid (show (bits BinOp.and IntKind.u64 ((bw (sq l) q : Int) / 2 ^ r) 1 == 1) = sqI l k by
    rw [bit_at _ _ _ hr64, sqI, if_pos (by omega)]
    congr 1; omega)
   clear hc hL
   go_enter Tryz.func93, Tryz.ntmps93
   go_wp2
   all_goals (go_ret; exact ⟨ret_b H.out, (Below.refl _ _).alloc (Nat.le_refl _) _⟩)

theorem last_clean (l : List Bool) (L r : Nat) (hL : (l.length + 63) / 64 = L + 1) (hr : l.length % 64 = r) (hr0 : r ≠ 0) : ((bw (sq l) L : Int) / 2 ^ r == 0) = true := by
 have e : ((bw (sq l) L : Int) / 2 ^ r) = ((bw (sq l) L / 2 ^ r : Nat) : Int) := by simp
 have h0 : bw (sq l) L / 2 ^ r = 0 := by
  apply Nat.eq_of_testBit_eq
  intro j
  rw [← Nat.shiftRight_eq_div_pow, Nat.testBit_shiftRight, testBit_bw, sq_out (by omega)]
  simp
 rw [e, h0]; rfl
end Go.Proofs.YtbdhibcbpgjbmaaGreatDoor

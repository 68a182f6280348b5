/- Package num, walked: rests. -/
import Derived.Test.YtbdhibcbpgjbmaaGreatDoorNuC
namespace Go.Proofs.YtbdhibcbpgjbmaaGreatDoor
set_option maxRecDepth 100000
open Go.RowKit Fl
set_option linter.unusedVariables false
/-- What is left of b by a: 0, or of the sign of a. -/
def rst (a b : Int) : Int := if a = 0 then b else if b.tmod a ≠ 0 ∧ (b.tmod a < 0 ↔ ¬ a < 0) then b.tmod a + a else b.tmod a
theorem tmod_bounds {a b : Int} (ha : a ≠ 0) : (b.tmod a).natAbs < a.natAbs := by
  have h : b.tmod a = b.tmod (a.natAbs : Int) := by
    rcases Int.lt_or_le a 0 with h | h
    · rw [show ((a.natAbs : Nat) : Int) = -a by omega, Int.tmod_neg]
    · rw [show ((a.natAbs : Nat) : Int) = a by omega]
  have h1 := Int.tmod_lt_of_pos b (b := (a.natAbs : Int)) (by omega)
  have h2 := Int.lt_tmod_of_pos b (b := (a.natAbs : Int)) (by omega)
  rw [← h] at h1 h2
  omega
theorem tdiv_bounds {a b : Int} (h1 : -9223372036854775808 ≤ b) (h2 : b ≤ 9223372036854775807) (ha : a ≠ 0) (hm : a ≠ -1) : -9223372036854775808 ≤ b.tdiv a ∧ b.tdiv a ≤ 9223372036854775807 := by
  have h3 : (b.tdiv a).natAbs = b.natAbs / a.natAbs := Int.natAbs_tdiv b a
  have h4 := Nat.div_le_self b.natAbs a.natAbs
  rcases Int.lt_or_le a 0 with h | h
  · have h5 : b.natAbs / a.natAbs ≤ b.natAbs / 2 := Nat.div_le_div_left (by omega) (by decide)
    omega
  · rcases Int.lt_or_le b 0 with g | g
    · have : b.tdiv a ≤ 0 := by
        obtain ⟨m, rfl⟩ : ∃ m : Nat, b = -(m : Int) := ⟨b.natAbs, by omega⟩
        rw [Int.neg_tdiv]
        have := Int.tdiv_nonneg (a := (m : Int)) (b := a) (by omega) h
        omega
      omega
    · have := Int.tdiv_nonneg (a := b) (b := a) g h
      omega
theorem wf_i64 {a : Int} (h : (Lit.int .i64 a).wf = true) : -9223372036854775808 ≤ a ∧ a ≤ 9223372036854775807 := by
  have hm : IntKind.i64.min = -9223372036854775808 ∧ IntKind.i64.max = 9223372036854775807 := by decide
  simp only [Lit.wf, decide_eq_true_eq, Bool.and_eq_true] at h
  rw [hm.1, hm.2] at h; exact h
end Go.Proofs.YtbdhibcbpgjbmaaGreatDoor

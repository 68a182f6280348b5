/- The reference's kinds of numbers, walked: Least, Fits. -/
import Derived.Test.YtbdhibcbpgjbmaaGreatDoorSqM
import Derived.Test.YtbdhibcbpgjbmaaGreatDoorNuF
import Derived.Test.YtbdhibcbpgjbmaaGreatDoorVeN
namespace Go.Proofs.YtbdhibcbpgjbmaaGreatDoor
open Go.RowKit Fl
set_option linter.unusedVariables false
set_option maxRecDepth 100000

theorem ord_int {x c : Nat} {n m : Int} (h : Wh x n) (hm : m.natAbs ≤ 9007199254740992) (hc : floatOfInt .f64 m = c) :
  (n < m ∧ FloatKind.f64.format.order x c = some .lt) ∨ (n = m ∧ FloatKind.f64.format.order x c = some .eq) ∨ (m < n ∧ FloatKind.f64.format.order x c = some .gt) := by
 subst hc
 have := wh_lt h (ofInt_fin m (by omega)) (ofInt_val m hm)
 rcases Int.lt_trichotomy n m with hlt | heq | hgt
 ·exact .inl ⟨hlt, this.1 hlt⟩
 ·exact .inr (.inl ⟨heq, this.2.1 heq⟩)
 ·exact .inr (.inr ⟨hgt, this.2.2 hgt⟩)
theorem c_m128 : floatOfInt .f64 (-128) = 13862079653046386688 := by decide +kernel
theorem c_127 : floatOfInt .f64 127 = 4638637247447433216 := by decide +kernel
theorem c_0 : floatOfInt .f64 0 = 0 := by decide +kernel
theorem c_1 : floatOfInt .f64 1 = 4607182418800017408 := by decide +kernel
theorem kz3 {n : Int} (h : n < -128 ∨ 127 < n) : kindZ n = 3 := by unfold kindZ; rw [if_neg (by omega), if_neg (by omega)]
theorem kz2 {n : Int} (h1 : -128 ≤ n) (h2 : n ≤ 127) (h3 : n ≠ 0) (h4 : n ≠ 1) : kindZ n = 2 := by unfold kindZ; rw [if_neg (by omega), if_pos ⟨h1, h2⟩]
theorem kz1 {n : Int} (h : n = 0 ∨ n = 1) : kindZ n = 1 := by unfold kindZ; rw [if_pos h]

end Go.Proofs.YtbdhibcbpgjbmaaGreatDoor

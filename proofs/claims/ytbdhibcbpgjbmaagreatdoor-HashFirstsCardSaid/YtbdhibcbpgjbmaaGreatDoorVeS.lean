/- VecBits, walked. -/
import Derived.Test.YtbdhibcbpgjbmaaGreatDoorVeQ
import Derived.Test.YtbdhibcbpgjbmaaGreatDoorBvD
import Derived.Test.YtbdhibcbpgjbmaaGreatDoorBvP
import Derived.Test.YtbdhibcbpgjbmaaGreatDoorBvK
namespace Go.Proofs.YtbdhibcbpgjbmaaGreatDoor
open Go.RowKit Fl
set_option linter.unusedVariables false
set_option maxRecDepth 100000

theorem num_zero : Num 0 := ⟨fin_zero, fun _ => rfl⟩
theorem num_one : Num 4607182418800017408 := ⟨one_fin, fun h => absurd h (by decide)⟩
theorem num_flag (b : Bool) : Num (flagW b) := by cases b; exact num_zero; exact num_one
theorem num_ofInt (n : Int) (h : sm n = true) : Num (floatOfInt .f64 n) := by
 obtain ⟨h1, h2⟩ := sm_of h
 refine ⟨ofInt_fin n (by omega), fun hz => ?_⟩
 have hv := ofInt_val n (by omega)
 rw [V_eq_zero.2 hz] at hv
 have hp := pw_pos 1074
 have hn : n = 0 := by
  rcases Int.mul_eq_zero.1 hv.symm with h | h
  ·exact h
  ·omega
 subst hn
 decide +kernel
theorem sm_i8 {z : Int} (h1 : -128 ≤ z) (h2 : z ≤ 127) : sm z = true := sm_yes (by omega) (by omega)
theorem flag_map (b : List Bool) : (VV.bits b).nums = (VV.bits b).whs.map (floatOfInt .f64) := by
 simp only [VV.nums, VV.whs, List.map_map]
 apply List.map_congr_left
 intro c _
 cases c <;> decide +kernel
theorem i8_range {z : Int} (h : (Lit.int .i8 z).wf = true) : -128 ≤ z ∧ z ≤ 127 := by
 have hm : IntKind.i8.min = -128 ∧ IntKind.i8.max = 127 := by decide
 simp only [Lit.wf, decide_eq_true_eq, Bool.and_eq_true] at h
 rw [hm.1, hm.2] at h; exact h

end Go.Proofs.YtbdhibcbpgjbmaaGreatDoor

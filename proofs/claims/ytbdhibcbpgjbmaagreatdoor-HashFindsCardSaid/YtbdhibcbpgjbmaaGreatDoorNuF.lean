/- Layer 3's laws, walked: NumTidy, NumReckons, NumTurns, NumRests, NumPowers. -/
import Derived.Test.YtbdhibcbpgjbmaaGreatDoorNuE
namespace Go.Proofs.YtbdhibcbpgjbmaaGreatDoor
set_option maxRecDepth 100000
open Go.RowKit Fl
set_option linter.unusedVariables false
theorem wh_of (n : Int) (h : n.natAbs ≤ 9007199254740992) : Wh (floatOfInt .f64 n) n := ⟨ofInt_fin n (by omega), h, ofInt_val n h⟩
theorem wh_n {x : Nat} (n : Int) (h : n.natAbs ≤ 9007199254740992) (e : floatOfInt .f64 n = x) : Wh x n := e ▸ wh_of n h
def Drew (w : World) (e : Ending) (w' : World) : Prop := e = .returned (.bool true) ∧ ∃ m, w' = w.drewN m
theorem num_zero : Num 0 := ⟨fin_zero, fun _ => rfl⟩
theorem bits_rs (z : Nat) (w : World) (hz : z < 18446744073709551616) : Calls Tryz.prog 60 #[.float .f64 (rs z).1, .float .f64 (rs z).1] w fun e w' => e = .returned (.bool true) ∧ w = w' := bits_same _ w (rs_num z hz)
theorem below_drewN (w : World) (m : Nat) : Below w.heap.size w (w.drewN m) := ⟨rfl, rfl, rfl, Nat.le_refl _, fun _ _ => rfl⟩
theorem frame_of {e : Ending} {w w' : World} (h : Drew w e w') : e = .returned (.bool true) ∧ Below w.heap.size w w' := by
  obtain ⟨rfl, m, rfl⟩ := h
  exact ⟨rfl, below_drewN _ _⟩
end Go.Proofs.YtbdhibcbpgjbmaaGreatDoor

/- Layer 16, walked: Cells, Less. -/
import Derived.Test.YtbdhibcbpgjbmaaGreatDoorOrA
namespace Go.Proofs.YtbdhibcbpgjbmaaGreatDoor
set_option maxRecDepth 100000
open Go.RowKit Fl
set_option linter.unusedVariables false

theorem orB_self {A : VV} (h : A.cls < 2) : orB A A = true := decide_eq_true ⟨rfl, h⟩
theorem orC_self {A : VV} (h : A.cls < 2) (i k : Nat) : orC A i A k = cmpI (keyV A i) (keyV A k) := by unfold orC; rw [orB_self h]; rfl
/-- Cell i lies within n elements. -/
theorem cell_in {n size i : Nat} (h : i < n / size) : i * size + size ≤ n := by
 have h1 : (i + 1) * size ≤ n / size * size := Nat.mul_le_mul_right _ h
 have h2 := Nat.div_mul_le_self n size
 rw [Nat.add_mul, Nat.one_mul] at h1
 omega
theorem cmpK_lt {K : Nat → Int} {size i k j : Nat} (hj : j < size) (h : ∀ m, m < j → K (i * size + m) = K (k * size + m)) (hl : K (i * size + j) < K (k * size + j)) : cmpK K size i k = -1 := by
 unfold cmpK
 rw [lexI_hit (celK_get hj) (celK_get hj) (fun m hm => by rw [celK_get (by omega), celK_get (by omega), h m hm]), if_pos hl]
theorem cmpK_gt {K : Nat → Int} {size i k j : Nat} (hj : j < size) (h : ∀ m, m < j → K (i * size + m) = K (k * size + m)) (hl : K (k * size + j) < K (i * size + j)) : cmpK K size i k = 1 := by
 unfold cmpK
 rw [lexI_hit (celK_get hj) (celK_get hj) (fun m hm => by rw [celK_get (by omega), celK_get (by omega), h m hm]), if_neg (by omega), if_pos hl]
theorem cmpK_eq {K : Nat → Int} {size i k : Nat} (h : ∀ m, m < size → K (i * size + m) = K (k * size + m)) : cmpK K size i k = 0 := by
 unfold cmpK
 exact lexI_all (by rw [celK_len, celK_len]) (fun m hm => by rw [celK_len] at hm; rw [celK_get hm, celK_get hm, h m hm])
end Go.Proofs.YtbdhibcbpgjbmaaGreatDoor

/- The reference of layer 2: Into, Truth, Ones. -/
import Derived.Test.YtbdhibcbpgjbmaaGreatDoorBvB
namespace Go.Proofs.YtbdhibcbpgjbmaaGreatDoor
set_option maxRecDepth 100000
open Go.RowKit
set_option linter.unusedVariables false

/-- A number brought between two. -/
def into (n least most : Int) : Int := if n < least then least else if most < n then most else n
theorem tab_bit (t k : Nat) (m : Int) (hm : m = 2 ^ k) : ((t : Int) / m % 2 == 1) = t.testBit k := by
 subst hm
 have e : ((t : Int) / 2 ^ k) = ((t / 2 ^ k : Nat) : Int) := by simp
 rw [e, Nat.testBit_eq_decide_div_mod_eq, Bool.eq_iff_iff, beq_iff_eq, decide_eq_true_iff]
 omega
/-- The places below k that are true. -/
def onesTo (F : Nat → Bool) (k : Nat) : List Int := ((List.range k).filter F).map fun j : Nat => (j : Int)
theorem onesTo_hit {F : Nat → Bool} {k : Nat} (h : F k = true) : onesTo F (k + 1) = onesTo F k ++ [(k : Int)] := by
 simp [onesTo, List.range_succ, List.filter_append, h]
theorem onesTo_miss {F : Nat → Bool} {k : Nat} (h : F k = false) : onesTo F (k + 1) = onesTo F k := by
 simp [onesTo, List.range_succ, List.filter_append, h]
theorem onesTo_le (F : Nat → Bool) (k : Nat) : (onesTo F k).length ≤ k := by
 have := List.length_filter_le F (List.range k)
 simp only [List.length_range] at this
 simpa [onesTo] using this
theorem onesTo_cnt (F : Nat → Bool) : ∀ k, (onesTo F k).length = cnt F k
 | 0 => rfl
 | k + 1 => by
  cases h : F k
  ·rw [onesTo_miss h, onesTo_cnt F k, cnt, h]; rfl
  ·rw [onesTo_hit h, List.length_append, onesTo_cnt F k, cnt, h]; rfl

end Go.Proofs.YtbdhibcbpgjbmaaGreatDoor

/- Layer 17, walked: the reference's Spread. -/
import Derived.Test.YtbdbpamefkgelaaGreatDoorRxA
namespace Go.Proofs.YtbdbpamefkgelaaGreatDoor
set_option maxRecDepth 100000
open Go.RowKit Fl
set_option linter.unusedVariables false

/-- The bits below k, and bit k if one of the first i keys differs in it. -/
def spI (keys : List Nat) (k i : Nat) : Nat := if (keys.take i).any (fun x => x.testBit k != (keys.headD 0).testBit k) then spN keys k ||| 2 ^ k else spN keys k
theorem spI_zero (keys : List Nat) (k : Nat) : spI keys k 0 = spN keys k := by unfold spI; simp
theorem spI_all (keys : List Nat) (k : Nat) : spI keys k keys.length = spN keys (k + 1) := by
  unfold spI; rw [List.take_length]; rfl
theorem spI_succ {keys : List Nat} {k i x : Nat} (h : keys[i]? = some x) : spI keys k (i + 1) = if x / 2 ^ k % 2 = keys.headD 0 / 2 ^ k % 2 then spI keys k i else spI keys k i ||| 2 ^ k := by
  unfold spI
  rw [take_getX h, List.any_append, List.any_cons, List.any_nil, Bool.or_false]
  have e : (x.testBit k != (keys.headD 0).testBit k) = decide (¬ x / 2 ^ k % 2 = keys.headD 0 / 2 ^ k % 2) := by
    rw [Nat.testBit_eq_decide_div_mod_eq, Nat.testBit_eq_decide_div_mod_eq]
    have h1 := Nat.mod_lt (x / 2 ^ k) (show 0 < 2 by decide)
    have h2 := Nat.mod_lt (keys.headD 0 / 2 ^ k) (show 0 < 2 by decide)
    generalize x / 2 ^ k % 2 = p at *
    generalize keys.headD 0 / 2 ^ k % 2 = q at *
    have : p = 0 ∨ p = 1 := by omega
    have : q = 0 ∨ q = 1 := by omega
    rcases ‹p = 0 ∨ p = 1› with rfl | rfl <;> rcases ‹q = 0 ∨ q = 1› with rfl | rfl <;> rfl
  rw [e]
  by_cases h1 : x / 2 ^ k % 2 = keys.headD 0 / 2 ^ k % 2
  · rw [if_pos h1, decide_eq_false (by simpa using h1), Bool.or_false]
  · rw [if_neg h1, decide_eq_true h1, Bool.or_true, if_pos rfl]
    split
    · rw [Nat.or_assoc, Nat.or_self]
    · rfl
theorem spN_lt (keys : List Nat) : ∀ k, spN keys k < 2 ^ k := by
  intro k
  apply Nat.lt_pow_two_of_testBit
  intro j hj
  rw [spN_bit, decide_eq_false (by omega), Bool.false_and]
theorem spI_lt (keys : List Nat) {k : Nat} (i : Nat) (hk : k < 64) : spI keys k i < 18446744073709551616 := by
  have h1 := spN_lt keys k
  have h2 : 2 ^ k < 2 ^ 64 := Nat.pow_lt_pow_right (by decide) hk
  unfold spI
  split
  · exact or_lt64 (Nat.lt_trans h1 h2) h2
  · exact Nat.lt_trans h1 h2
end Go.Proofs.YtbdbpamefkgelaaGreatDoor

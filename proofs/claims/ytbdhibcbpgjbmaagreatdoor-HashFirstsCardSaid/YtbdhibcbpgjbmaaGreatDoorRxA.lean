/- Layer 17, walked: digit, the reference's Digit, Spread, the reference's Spread; an array of 2048 numbers. -/
import Derived.Test.YtbdhibcbpgjbmaaGreatDoorRxP
import Derived.Test.YtbdhibcbpgjbmaaGreatDoorVeI
import Derived.Test.YtbdhibcbpgjbmaaGreatDoorPiA
namespace Go.Proofs.YtbdhibcbpgjbmaaGreatDoor
set_option maxRecDepth 100000
open Go.RowKit Fl
set_option linter.unusedVariables false

def isZ : Value → Bool
 | .int .i64 n => n == 0
 | _ => false
theorem isZ_eq {v : Value} (h : isZ v = true) : v = .int .i64 0 := by
 unfold isZ at h
 split at h
 ·rw [eq_of_beq h]
 ·cases h
/-- Bits in which the first k keys differ from the first one. -/
def spP (keys : List Nat) (k : Nat) : Nat := spF (keys.headD 0) (keys.take k)
theorem spP_zero (keys : List Nat) : spP keys 0 = 0 := rfl
theorem spP_succ {keys : List Nat} {k x : Nat} (h : keys[k]? = some x) : spP keys (k + 1) = spP keys k ||| (x ^^^ keys.headD 0) := by
 unfold spP spF
 rw [take_getX h, List.foldl_append]; rfl
theorem xor_lt64 {a b : Nat} (ha : a < 18446744073709551616) (hb : b < 18446744073709551616) : a ^^^ b < 18446744073709551616 := Nat.xor_lt_two_pow (n := 64) ha hb
theorem or_lt64 {a b : Nat} (ha : a < 18446744073709551616) (hb : b < 18446744073709551616) : a ||| b < 18446744073709551616 := Nat.or_lt_two_pow (n := 64) ha hb
theorem head_lt {keys : List Nat} (hk : ∀ x ∈ keys, x < 18446744073709551616) : keys.headD 0 < 18446744073709551616 := by
 cases keys with
 | nil => decide
 | cons a l => exact hk a (List.mem_cons_self ..)
theorem spP_lt {keys : List Nat} (hk : ∀ x ∈ keys, x < 18446744073709551616) : ∀ k, k ≤ keys.length → spP keys k < 18446744073709551616 := by
 intro k
 induction k with
 | zero => intro _; rw [spP_zero]; decide
 | succ k ih =>
  intro h
  rw [spP_succ (List.getElem?_eq_getElem (show k < keys.length by omega))]
  exact or_lt64 (ih (by omega)) (xor_lt64 (hk _ (List.getElem_mem _)) (head_lt hk))
theorem spP_all {keys : List Nat} (hk : ∀ x ∈ keys, x < 18446744073709551616) : spP keys keys.length = spN keys 64 := by
 unfold spP; rw [List.take_length]
 exact spF_spN (n := 64) hk
theorem head_at {keys : List Nat} {x : Nat} (h : keys[0]? = some x) : keys.headD 0 = x := by
 cases keys with
 | nil => cases h
 | cons a l => exact Option.some.inj h
end Go.Proofs.YtbdhibcbpgjbmaaGreatDoor

/- Layer 3's laws, walked: NumReckons, NumRests, NumPowers. Written by a program of mine. -/
import Derived.Test.YtbdhibcbpgjbmaaGreatDoorNuF
namespace Go.Proofs.YtbdhibcbpgjbmaaGreatDoor
set_option maxRecDepth 100000
open Go.RowKit Fl
set_option linter.unusedVariables false
theorem self_eq (i : Int) : (i == i) = true := by simp
theorem self_ne (i : Int) : (i != i) = false := by simp
theorem pwr_num (a : Nat) (n : Int) (h : ∀ z, tms 10 n.natAbs (some 4607182418800017408) (some a) = some z → z < 18446744073709551616) : Num (pwr a n).1 := by
  unfold pwr
  split
  · exact num_zero
  · rename_i z hz
    split
    · exact rs_num z (h z hz)
    · split
      · rename_i h0
        obtain ⟨y, hy⟩ := div_some one_fin ⟨h z hz, h0.1⟩ h0.2
        rw [hy, Option.getD_some]
        exact rs_num y (bits_lt (op := .quo) hy)
      · exact num_zero
theorem tms_lt : ∀ (n k : Nat) (o x : Option Nat), (∀ z, o = some z → z < 18446744073709551616) → ∀ z, tms n k o x = some z → z < 18446744073709551616
  | 0, _, _, _, h, z, e => h z e
  | n + 1, k, o, x, h, z, e => by
    rw [tms] at e
    split at e
    · exact h z e
    · refine tms_lt n _ _ _ ?_ z e
      intro y hy
      split at hy
      · unfold fm at hy
        cases o with
        | none => cases hy
        | some a =>
          cases x with
          | none => cases hy
          | some b => exact bits_lt (op := .mul) hy
      · exact h y hy
theorem pwr_num' (a : Nat) (n : Int) : Num (pwr a n).1 := pwr_num a n fun z => tms_lt _ _ _ _ (fun z e => by cases e; decide) z
theorem rst_small {m n : Int} (h1 : m.natAbs ≤ 9007199254740992) (h2 : n.natAbs ≤ 9007199254740992) : (rst m n).natAbs ≤ 9007199254740992 := by
  unfold rst
  split
  · exact h2
  · rename_i h0
    have := tmod_bounds (b := n) h0
    split <;> omega
end Go.Proofs.YtbdhibcbpgjbmaaGreatDoor

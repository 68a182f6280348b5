/- Package shape, walked: Index, Next. -/
import Derived.Test.YtbdhibcbpgjbmaaGreatDoorShU
namespace Go.Proofs.YtbdhibcbpgjbmaaGreatDoor
open Go.RowKit
set_option linter.unusedVariables false
set_option maxRecDepth 100000

theorem idxG_none {s : List Int} {i : Int} (h : hasG s i = false) : idxG s i = [] := by unfold idxG; rw [if_neg (by rw [h]; decide)]
theorem idxG_some {s : List Int} {i : Int} (h : hasG s i = true) : idxG s i = unp s i := if_pos h
theorem ret_zb {z : Value} {a b : Bool} (h : a = b) : Ending.returned (.tuple #[z, .bool a]) = .returned (.tuple #[z, .bool b]) := by rw [h]
theorem prod_ok1 {s : List Int} {n : Int} (h : prodR s 1048576 = (n, 0)) : anyN s = false ∧ nzp s ≤ 1048576 ∧ n = if anyZ s = true then 0 else nzp s := by
 have hg : goodS s = true := by unfold goodS; rw [h]; rfl
 have h1 := good_anyN hg
 have h2 := good_nz hg
 refine ⟨h1, h2, ?_⟩
 by_cases h8 : 8 < s.length
 ·rw [prodR_long h8] at h; simp at h
 ·rw [prodR_fit h8 h1 (by omega)] at h
  by_cases hm : 1048576 < (if anyZ s = true then 0 else nzp s)
  ·rw [if_pos hm] at h; simp at h
  ·rw [if_neg hm] at h
   exact (congrArg Prod.fst h).symm

theorem moreG_no {s t : List Int} (h : decide (0 ≤ placeR s t) = false) : moreG s t = false := by unfold moreG; rw [h]; rfl
theorem nextG_none {s t : List Int} (h : moreG s t = false) : nextG s t = [] := by unfold nextG; rw [if_neg (by rw [h]; decide)]
theorem moreG_yes {s t : List Int} {p : Int} (hp : placeR s t = p) (h : 0 ≤ p) : moreG s t = hasG s (p + 1) ∧ nextG s t = idxG s (p + 1) := by
 have e : moreG s t = hasG s (p + 1) := by unfold moreG; rw [hp, decide_eq_true h, Bool.true_and]
 refine ⟨e, ?_⟩
 unfold nextG idxG
 rw [e, hp]
theorem placeR_lt {s t : List Int} {p : Int} (hp : placeR s t = p) (h : 0 ≤ p) : p < 1048576 := by
 unfold placeR at hp
 split at hp
 ·rename_i hc
  cases hq : plc s t with
  | none => rw [hq] at hp; simp at hp; omega
  | some q =>
   rw [hq] at hp
   have e : q = p := hp
   have := plc_bound s t q hq
   have := good_nz hc.1
   omega
 ·omega
end Go.Proofs.YtbdhibcbpgjbmaaGreatDoor

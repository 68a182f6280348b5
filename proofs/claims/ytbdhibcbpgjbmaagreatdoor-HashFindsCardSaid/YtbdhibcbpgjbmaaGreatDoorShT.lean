/- Package shape, walked: Strides, At. -/
import Derived.Test.YtbdhibcbpgjbmaaGreatDoorShR
namespace Go.Proofs.YtbdhibcbpgjbmaaGreatDoor
open Go.RowKit
set_option linter.unusedVariables false
set_option maxRecDepth 100000

theorem strG_good {s : List Int} (h : goodS s = true) : strG s = strd s := if_pos h
theorem strG_bad {s : List Int} (h : goodS s = false) : strG s = [] := by unfold strG; rw [if_neg (by rw [h]; decide)]
theorem Slc.wideG {w : World} {ok ok' : Nat → Prop} {s : Value} {n : Nat} {xs : List Value} (h : Slc w ok s n xs) (hm : ∀ b, ok b → ok' b) : Slc w ok' s n xs := h.keep (Kept.refl _ _) (fun b _ h => hm b h)
theorem below_newS (w : World) (o : Obj) : Below w.heap.size w (w.alloc o) := (Below.refl _ _).alloc (Nat.le_refl _) _
theorem slc_nilG (w : World) (ok : Nat → Prop) {l : List Int} (h : l = []) : Slc w ok (.slice Option.none 0 0) l.length (ints l) := by subst h; exact Slc.nil w ok
theorem max1 {x : Int} (h : ¬ x < 0) : (if x < 1 then (1 : Int) else x) = if 0 < x then x else 1 := by split <;> split <;> omega

theorem good_anyN {s : List Int} (h : goodS s = true) : anyN s = false := by
 unfold goodS at h
 by_cases h8 : 8 < s.length
 ·rw [prodR_long h8] at h; simp at h
 ·apply Bool.eq_false_iff.2
  intro hn
  rw [prodR_neg h8 hn] at h; simp at h
end Go.Proofs.YtbdhibcbpgjbmaaGreatDoor

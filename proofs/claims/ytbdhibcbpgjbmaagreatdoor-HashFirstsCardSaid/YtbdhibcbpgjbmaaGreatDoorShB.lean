/- The reference's shapes, walked: Without, With. -/
import Derived.Test.YtbdhibcbpgjbmaaGreatDoorShA
import Derived.Test.YtbdhibcbpgjbmaaGreatDoorAp
namespace Go.Proofs.YtbdhibcbpgjbmaaGreatDoor
open Go.RowKit
set_option linter.unusedVariables false
set_option maxRecDepth 100000

/-- Without what stands at a place. -/
def withoutR (s : List Int) (a : Int) : List Int := ((List.range s.length).filter fun i : Nat => decide ((i : Int) ≠ a)).map fun i => s.getD i 0
def withoutTo (s : List Int) (a : Int) (k : Nat) : List Int := ((List.range k).filter fun i : Nat => decide ((i : Int) ≠ a)).map fun i => s.getD i 0
theorem below_newA (w : World) (o : Obj) : Below w.heap.size w (w.alloc o) := (Below.refl _ _).alloc (Nat.le_refl _) _
theorem withoutTo_hit {s : List Int} {a : Int} {k : Nat} {x : Int} (h : s[k]? = some x) (hk : ¬ (k : Int) = a) : withoutTo s a (k + 1) = withoutTo s a k ++ [x] := by
 simp [withoutTo, List.range_succ, List.filter_append, hk, h]
theorem withoutTo_miss {s : List Int} {a : Int} {k : Nat} (hk : (k : Int) = a) : withoutTo s a (k + 1) = withoutTo s a k := by
 simp [withoutTo, List.range_succ, List.filter_append, hk]
theorem withoutTo_len (s : List Int) (a : Int) (k : Nat) : (withoutTo s a k).length ≤ k := by
 have := List.length_filter_le (fun i : Nat => decide ((i : Int) ≠ a)) (List.range k)
 simpa [withoutTo] using this

theorem ints_oneC (l : List Int) : ∀ u ∈ ints l, u.oneCell' = true := by intro u hu; simp only [ints, List.mem_map] at hu; obtain ⟨z, _, rfl⟩ := hu; rfl
end Go.Proofs.YtbdhibcbpgjbmaaGreatDoor

/- Layer 17, walked: Pass. -/
import Derived.Test.YtbdhibcbpgjbmaaGreatDoorRxA
import Derived.Test.YtbdhibcbpgjbmaaGreatDoorOrR
namespace Go.Proofs.YtbdhibcbpgjbmaaGreatDoor
set_option maxRecDepth 100000
open Go.RowKit Fl
set_option linter.unusedVariables false

theorem zL_get {l : List Nat} {k : Nat} {x : Int} (h : (zL l)[k]? = some x) : ∃ p, l[k]? = some p ∧ x = (p : Int) := by
 unfold zL at h
 rw [List.getElem?_map] at h
 cases hp : l[k]? with
 | none => rw [hp] at h; cases h
 | some p => rw [hp] at h; exact ⟨p, rfl, (Option.some.inj h).symm⟩
theorem ints_rowF {f : Nat → Int} {d : Nat} (h : d < 2048) (h2 : d < (ints (rowF f)).length) : (ints (rowF f))[d] = .int .i64 (f d) := by
 apply Option.some.inj
 rw [← List.getElem?_eq_getElem]
 unfold ints
 rw [List.getElem?_map, rowF_at h]; rfl
theorem ints_zT {l : List Nat} {p : Nat} (h : p < (ints (zL l)).length) : ∃ y, (ints (zL l))[p] = .int .i64 y := by
 unfold ints; exact ⟨_, List.getElem_map _⟩
end Go.Proofs.YtbdhibcbpgjbmaaGreatDoor

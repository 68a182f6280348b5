/- Merged: ReM. -/
import Derived.Test.YtbdbpamefkgelaaGreatDoorMgAr1
/- Layer 11, plain: which relations hold of two numbers, and of all elements of two lists. -/
namespace Go.Proofs.YtbdbpamefkgelaaGreatDoor
set_option maxRecDepth 100000
open Go.RowKit Fl
set_option linter.unusedVariables false

/-- Two finite words: how their orders stand, both ways. -/
theorem ord_both {a b : Nat} (ha : Fnt a) (hb : Fnt b) :
    (V a < V b ∧ FloatKind.f64.format.order a b = some .lt ∧ FloatKind.f64.format.order b a = some .gt) ∨
    (V a = V b ∧ FloatKind.f64.format.order a b = some .eq ∧ FloatKind.f64.format.order b a = some .eq) ∨
    (V b < V a ∧ FloatKind.f64.format.order a b = some .gt ∧ FloatKind.f64.format.order b a = some .lt) := by
  rcases ord_cases ha hb with ⟨h, o⟩ | ⟨h, o⟩ | ⟨h, o⟩
  · exact .inl ⟨h, o, ord_gt hb ha h⟩
  · exact .inr (.inl ⟨h, o, ord_eq hb ha h.symm⟩)
  · exact .inr (.inr ⟨h, o, ord_lt hb ha h⟩)
end Go.Proofs.YtbdbpamefkgelaaGreatDoor

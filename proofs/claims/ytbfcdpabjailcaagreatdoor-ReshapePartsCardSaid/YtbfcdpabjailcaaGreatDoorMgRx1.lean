/- Merged: RxM, RxN, RxP, RxA, RxC, RxD. -/
import Derived.Test.YtbfcdpabjailcaaGreatDoorMgOr1
import Derived.Test.YtbfcdpabjailcaaGreatDoorMgVe1
import Derived.Test.YtbfcdpabjailcaaGreatDoorMgPi1
import Derived.Test.YtbfcdpabjailcaaGreatDoorMgSh1
/- Layer 17, plain: places put in order by a digit of their keys; many passes are one order. -/
namespace Go.Proofs.YtbfcdpabjailcaaGreatDoor
set_option maxRecDepth 100000
set_option linter.unusedVariables false

end Go.Proofs.YtbfcdpabjailcaaGreatDoor

/- Layer 17, plain: many passes are one order; in which bits keys differ. -/
namespace Go.Proofs.YtbfcdpabjailcaaGreatDoor
set_option maxRecDepth 100000
set_option linter.unusedVariables false

end Go.Proofs.YtbfcdpabjailcaaGreatDoor

/- Layer 17, plain: places put by counting; passes that begin where keys differ; what the keys are. -/
namespace Go.Proofs.YtbfcdpabjailcaaGreatDoor
set_option maxRecDepth 100000
open Go.RowKit Fl
set_option linter.unusedVariables false

end Go.Proofs.YtbfcdpabjailcaaGreatDoor

/- Layer 17, walked: digit, the reference's Digit, Spread, the reference's Spread; an array of 2048 numbers. -/
namespace Go.Proofs.YtbfcdpabjailcaaGreatDoor
set_option maxRecDepth 100000
open Go.RowKit Fl
set_option linter.unusedVariables false

end Go.Proofs.YtbfcdpabjailcaaGreatDoor

/- Layer 17, walked: Pass. -/
namespace Go.Proofs.YtbfcdpabjailcaaGreatDoor
set_option maxRecDepth 100000
open Go.RowKit Fl
set_option linter.unusedVariables false

end Go.Proofs.YtbfcdpabjailcaaGreatDoor

/- Layer 17, walked: the reference's Pass. -/
namespace Go.Proofs.YtbfcdpabjailcaaGreatDoor
set_option maxRecDepth 100000
open Go.RowKit Fl
set_option linter.unusedVariables false

theorem cell_one_new (w1 : World) (x : Value) (e : TypeId) : ∀ j u, ([x] : List Value)[j]? = some u → (w1.alloc (.cells #[x] e)).cell? ((⟨w1.heap.size, 0, none⟩ : Addr).add j) = some u := by
  intro j u hj
  match j, hj with
  | 0, hj => simp at hj; subst hj; simp [Addr.add]
  | j + 1, hj => simp at hj
end Go.Proofs.YtbfcdpabjailcaaGreatDoor

/- Layer 16, walked: the reference's Below, Cells, Less. -/
import Derived.Test.YtbdhibcbpgjbmaaGreatDoorOrB
import Derived.Test.YtbdhibcbpgjbmaaGreatDoorVaW
namespace Go.Proofs.YtbdhibcbpgjbmaaGreatDoor
set_option maxRecDepth 100000
open Go.RowKit Fl
set_option linter.unusedVariables false

/-- An item's key. -/
def keyP (p : PI) : Int := if p.1 = 0 then V p.2.1 else p.2.2.1
/-- Items of one kind, their keys. -/
def Keyed (l : List PI) (K : Nat → Int) : Prop := (∀ (i k : Nat) (p q : PI), l[i]? = some p → l[k]? = some q → q.1 = p.1 ∧ (p.1 = 0 → Fnt p.2.1 ∧ Fnt q.2.1)) ∧ ∀ (i : Nat) (p : PI), l[i]? = some p → keyP p = K i
theorem cmpK_step {K : Nat → Int} {size i k j : Nat} (hj : j < size) (h : ∀ m, m < j → K (i * size + m) = K (k * size + m)) (R : Int) (hR : cmpK K size i k = R) : (K (i * size + j) < K (k * size + j) → R = -1) ∧ (K (k * size + j) < K (i * size + j) → R = 1) := ⟨fun hl => hR ▸ cmpK_lt hj h hl, fun hl => hR ▸ cmpK_gt hj h hl⟩
end Go.Proofs.YtbdhibcbpgjbmaaGreatDoor

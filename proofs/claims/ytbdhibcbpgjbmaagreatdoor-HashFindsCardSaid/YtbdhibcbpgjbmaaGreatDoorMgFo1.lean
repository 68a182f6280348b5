/- Merged: FoW. -/
import Derived.Lib.BitFns
import Derived.Laws.CopyOwn
import Derived.Deep.DeepMust
import Derived.Test.YtbdhibcbpgjbmaaGreatDoorMgVe1
/- Layer 13, walked: bits.Mul by one, slices.Repeat of one number. -/
namespace Go.Proofs.YtbdhibcbpgjbmaaGreatDoor
set_option maxRecDepth 100000
open Go.RowKit
set_option linter.unusedVariables false

theorem lt_heap {w : World} {g : Nat} {o : Obj} (h : w.heap[g]? = some o) : g < w.heap.size := (Array.getElem?_eq_some_iff.1 h).1
theorem row_cell {w : World} {g j : Nat} {l : List Value} {t : TypeId} {u : Value} (h : w.heap[g]? = some (.cells l.toArray t (0, 0))) (hj : l[j]? = some u) : w.cell? ⟨g, j, none⟩ = some u := by
  simp [World.cell?, h, hj]
theorem add_cell {w : World} {b off j : Nat} {u : Value} (h : w.cell? ⟨b, off + j, none⟩ = some u) : w.cell? ((⟨b, off, none⟩ : Addr).add j) = some u := by
  by_cases h0 : j = 0
  · subst h0; simpa [Addr.add] using h
  · simpa [Addr.add, h0] using h
end Go.Proofs.YtbdhibcbpgjbmaaGreatDoor

/- Merged: ShM, ShA, ShB, ShC, ShD, ShE, ShS, ShP, ShQ, ShR. -/
import Derived.Test.YtibkbhglcmpeaaaDoorMgBv1
/- Shapes: how many elements, plain. -/
namespace Go.Proofs.YtibkbhglcmpeaaaDoor
set_option maxRecDepth 100000
set_option linter.unusedVariables false
end Go.Proofs.YtibkbhglcmpeaaaDoor

/- The reference's shapes, walked: Product, Good. -/
namespace Go.Proofs.YtibkbhglcmpeaaaDoor
open Go.RowKit
set_option linter.unusedVariables false
set_option maxRecDepth 100000

end Go.Proofs.YtibkbhglcmpeaaaDoor

/- The reference's shapes, walked: Without, With. -/
namespace Go.Proofs.YtibkbhglcmpeaaaDoor
open Go.RowKit
set_option linter.unusedVariables false
set_option maxRecDepth 100000

end Go.Proofs.YtibkbhglcmpeaaaDoor

/- The reference's shapes, walked: Place. -/
namespace Go.Proofs.YtibkbhglcmpeaaaDoor
open Go.RowKit
set_option linter.unusedVariables false
set_option maxRecDepth 100000

end Go.Proofs.YtibkbhglcmpeaaaDoor

/- Shapes: places and indexes, plain. -/
namespace Go.Proofs.YtibkbhglcmpeaaaDoor
set_option maxRecDepth 100000
open Go.RowKit
set_option linter.unusedVariables false

end Go.Proofs.YtibkbhglcmpeaaaDoor

/- The reference's shapes, walked: All. -/
namespace Go.Proofs.YtibkbhglcmpeaaaDoor
open Go.RowKit
set_option linter.unusedVariables false
set_option maxRecDepth 100000

/-- v is a slice of slices: the lists L. -/
def RowsI (w : World) (ok : Nat → Prop) (v : Value) (L : List (List Int)) : Prop :=
  ∃ f : Nat → Value, Slc w ok v L.length ((List.range L.length).map f) ∧ ∀ i (h : i < L.length), Slc w ok (f i) (L[i]).length (ints (L[i]))
theorem RowsI.below {w w' : World} {ok : Nat → Prop} {v : Value} {L : List (List Int)} (h : RowsI w ok v L) (hb : Below w.heap.size w w') : RowsI w' ok v L := by
  obtain ⟨f, h1, h2⟩ := h
  exact ⟨f, h1.below hb, fun i hi => (h2 i hi).below hb⟩
end Go.Proofs.YtibkbhglcmpeaaaDoor

/- Shapes: what the functions of package shape tell, plain. -/
namespace Go.Proofs.YtibkbhglcmpeaaaDoor
set_option maxRecDepth 100000
open Go.RowKit
set_option linter.unusedVariables false

end Go.Proofs.YtibkbhglcmpeaaaDoor

/- Shapes: what the landed functions reckon, plain; parts of slices. -/
namespace Go.Proofs.YtibkbhglcmpeaaaDoor
set_option maxRecDepth 100000
open Go.RowKit
set_option linter.unusedVariables false

theorem Slc.take {w : World} {ok : Nat → Prop} {ao : Option Addr} {cap : Nat} {s : List Int} (h : Slc w ok (.slice ao s.length cap) s.length (ints s)) (k : Nat) (hk : k ≤ s.length) : Slc w ok (.slice ao k cap) (s.take k).length (ints (s.take k)) := by
  obtain ⟨⟨h1, ao1, cap1, e1, h3⟩, ao2, cap2, e2, h4, h5⟩ := h
  cases e1; cases e2
  have hl : (s.take k).length = k := by rw [List.length_take]; omega
  rw [hl]
  refine ⟨⟨by rw [ints_len, hl], ao, cap, rfl, fun i hi => ?_⟩, ao, cap, rfl, by omega, h5⟩
  rw [ints_len, hl] at hi
  obtain ⟨b, off, e, hb, hc⟩ := h3 i (by rw [ints_len]; omega)
  refine ⟨b, off, e, hb, ?_⟩
  rw [hc, ints_get, ints_get, List.getElem_take]
theorem Slc.drop {w : World} {ok : Nat → Prop} {b off : Nat} {cap : Nat} {s : List Int} (h : Slc w ok (.slice (some ⟨b, off, none⟩) s.length cap) s.length (ints s)) (k : Nat) (hk : k ≤ s.length) : Slc w ok (.slice (some ⟨b, off + k, none⟩) (s.length - k) (cap - k)) (s.drop k).length (ints (s.drop k)) := by
  obtain ⟨⟨h1, ao1, cap1, e1, h3⟩, ao2, cap2, e2, h4, h5⟩ := h
  cases e1; cases e2
  rw [List.length_drop]
  refine ⟨⟨by rw [ints_len, List.length_drop], _, _, rfl, fun i hi => ?_⟩, _, _, rfl, by omega, by omega⟩
  rw [ints_len, List.length_drop] at hi
  obtain ⟨b', off', e, hb, hc⟩ := h3 (k + i) (by rw [ints_len]; omega)
  cases e
  refine ⟨b, off + k, rfl, hb, ?_⟩
  rw [show off + k + i = off + (k + i) by omega, hc, ints_get, ints_get, List.getElem_drop]
end Go.Proofs.YtibkbhglcmpeaaaDoor

/- Package shape, walked: Product, Good; slices.ContainsFunc, slices.Contains. -/
namespace Go.Proofs.YtibkbhglcmpeaaaDoor
open Go.RowKit
set_option linter.unusedVariables false
set_option maxRecDepth 100000

end Go.Proofs.YtibkbhglcmpeaaaDoor

/- Package shape, walked: Product, Good, has. -/
namespace Go.Proofs.YtibkbhglcmpeaaaDoor
open Go.RowKit
set_option linter.unusedVariables false
set_option maxRecDepth 100000

end Go.Proofs.YtibkbhglcmpeaaaDoor

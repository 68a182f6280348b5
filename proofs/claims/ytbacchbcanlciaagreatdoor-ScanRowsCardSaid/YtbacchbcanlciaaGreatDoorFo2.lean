/- Layer 13's law: FoldRows. -/
import Derived.Test.YtbacchbcanlciaaGreatDoorMgFo1
import Derived.Test.YtbacchbcanlciaaGreatDoorMgSq1
import Derived.Test.YtbacchbcanlciaaGreatDoorMgVe1
namespace Go.Proofs.YtbacchbcanlciaaGreatDoor
set_option maxRecDepth 100000
open Go.RowKit Fl
set_option linter.unusedVariables false

theorem Slc.takem {α : Type} (g : α → Value) {w : World} {ok : Nat → Prop} {ao : Option Addr} {cap : Nat} {s : List α} (h : Slc w ok (.slice ao s.length cap) s.length (s.map g)) (k : Nat) (hk : k ≤ s.length) : Slc w ok (.slice ao k cap) (s.take k).length ((s.take k).map g) := by
 obtain ⟨⟨h1, ao1, cap1, e1, h3⟩, ao2, cap2, e2, h4, h5⟩ := h
 cases e1; cases e2
 have hl : (s.take k).length = k := by rw [List.length_take]; omega
 rw [hl]
 refine ⟨⟨by rw [List.length_map, hl], _, _, rfl, fun i hi => ?_⟩, _, _, rfl, by omega, h5⟩
 rw [List.length_map, hl] at hi
 obtain ⟨b', off', e, hb, hc⟩ := h3 i (by rw [List.length_map]; omega)
 refine ⟨b', off', e, hb, ?_⟩
 rw [hc]
 simp
end Go.Proofs.YtbacchbcanlciaaGreatDoor

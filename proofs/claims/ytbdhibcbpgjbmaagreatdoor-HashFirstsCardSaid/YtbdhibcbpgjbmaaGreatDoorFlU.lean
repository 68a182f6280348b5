/- slices.Grow, slices.Concat of lists of numbers, of characters and of booleans. -/
import Derived.Test.YtbdhibcbpgjbmaaGreatDoorFlT
import Derived.Test.YtbdhibcbpgjbmaaGreatDoorCat
namespace Go.Proofs.YtbdhibcbpgjbmaaGreatDoor
set_option maxRecDepth 100000
open Go.RowKit
set_option linter.unusedVariables false

/-- v is a slice of slices, those of L. -/
def RowsG {α : Type} (f : α → Value) (w : World) (ok : Nat → Prop) (v : Value) (L : List (List α)) : Prop :=
 ∃ ao cap, v = .slice ao L.length cap ∧ ∀ i (h : i < L.length), ∃ b off u, ao = some ⟨b, off, none⟩ ∧ w.cell? ⟨b, off + i, none⟩ = some u ∧ Slc w ok u L[i].length (L[i].map f)
theorem RowsG.below {α : Type} {f : α → Value} {w w' : World} {ok : Nat → Prop} {v : Value} {L : List (List α)} (h : RowsG f w ok v L) (hb : Below w.heap.size w w') : RowsG f w' ok v L := by
 obtain ⟨ao, cap, rfl, hc⟩ := h
 refine ⟨ao, cap, rfl, fun i hi => ?_⟩
 obtain ⟨b, off, u, e, h1, h2⟩ := hc i hi
 exact ⟨b, off, u, e, keep_below hb _ _ h1, h2.below hb⟩
theorem map_one {α : Type} (f : α → Value) (h : ∀ x, (f x).oneCell' = true) (l : List α) : ∀ u ∈ l.map f, u.oneCell' = true := by
 intro u hu; obtain ⟨z, _, rfl⟩ := List.mem_map.1 hu; exact h z
theorem flatG_take {α : Type} {L : List (List α)} {k : Nat} {l : List α} (h : L[k]? = some l) : (L.take (k + 1)).flatten = (L.take k).flatten ++ l := by
 obtain ⟨hk, e⟩ := List.getElem?_eq_some_iff.1 h
 rw [List.take_succ_eq_append_getElem hk, List.flatten_append, e]; simp
theorem flatG_len {α : Type} {L : List (List α)} {k : Nat} {l : List α} (h : L[k]? = some l) : (L.take (k + 1)).flatten.length = (L.take k).flatten.length + l.length := by rw [flatG_take h, List.length_append]
theorem flatG_le {α : Type} (L : List (List α)) : ∀ d k, k + d = L.length → (L.take k).flatten.length ≤ L.flatten.length := by
 intro d
 induction d with
 | zero => intro k h; rw [List.take_of_length_le (by omega)]; exact Nat.le_refl _
 | succ d ih =>
  intro k h
  have := ih (k + 1) (by omega)
  rw [flatG_len (List.getElem?_eq_getElem (show k < L.length by omega))] at this
  omega

end Go.Proofs.YtbdhibcbpgjbmaaGreatDoor

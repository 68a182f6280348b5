/- Package flat, walked: Join's parts: withElements, firstClass, commonKind, fit. -/
import Derived.Test.YtbdhibcbpgjbmaaGreatDoorFlU
namespace Go.Proofs.YtbdhibcbpgjbmaaGreatDoor
set_option maxRecDepth 100000
open Go.RowKit Fl
set_option linter.unusedVariables false

/-- v is a slice of vectors: their values and what they hold. -/
def VecsZ (w : World) (ok : Nat → Prop) (v : Value) (Z : List (Value × VV)) : Prop := Slc w ok v Z.length (Z.map Prod.fst) ∧ ∀ p ∈ Z, IsV w ok p.1 p.2
theorem VecsZ.keep {w w' : World} {ok ok' : Nat → Prop} {v : Value} {Z : List (Value × VV)} (hk : Kept ok w w') (hm : ∀ b, b < w.heap.size → ok b → ok' b) (h : VecsZ w ok v Z) : VecsZ w' ok' v Z := ⟨h.1.keep hk hm, fun p hp => (h.2 p hp).keep hk hm⟩
theorem VecsZ.go {w w' : World} {ok : Nat → Prop} {v : Value} {Z : List (Value × VV)} (h : VecsZ w ok v Z) (hB : Below w.heap.size w w') : Hid (VecsZ w' ok v Z) := Lib.hid (h.keep (Kept.below hB) (fun _ _ h => h))
theorem IsV.one {w : World} {ok : Nat → Prop} {u : Value} {V : VV} (h : IsV w ok u V) : u.oneCell' = true := by
 rcases h.shape with rfl | ⟨t, x, rfl⟩ <;> rfl
theorem VecsZ.at {w : World} {ok : Nat → Prop} {ao : Option Addr} {n cap : Nat} {Z : List (Value × VV)} (h : VecsZ w ok (.slice ao n cap) Z) {k : Nat} (hk : k < Z.length) :
  ∃ b off p, ao = some ⟨b, off, none⟩ ∧ Z[k]? = some p ∧ w.cell? ⟨b, off + k, none⟩ = some p.1 ∧ IsV w ok p.1 p.2 := by
 obtain ⟨ao', cap', e, _, _, _, hc⟩ := h.1.opened
 cases e
 obtain ⟨b, off, e, _, hcell⟩ := hc k (by simpa using hk)
 refine ⟨b, off, Z[k], e, List.getElem?_eq_getElem hk, by simpa using hcell, h.2 _ (List.getElem_mem hk)⟩
def fullZ (Z : List (Value × VV)) : List (Value × VV) := Z.filter fun p => decide (0 < p.2.len)
theorem info_vec1 : (Tryz.prog.info? 36).map (fun i => (i.zero, i.size, i.bytes)) = some (some (.agg #[.nilIface]), 1, 16) := by kernel_rfl

end Go.Proofs.YtbdhibcbpgjbmaaGreatDoor

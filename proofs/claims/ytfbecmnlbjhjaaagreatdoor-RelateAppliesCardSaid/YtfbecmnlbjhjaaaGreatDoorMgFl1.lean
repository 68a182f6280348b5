/- Merged: FlA, FlB, FlC, FlD, FlE, FlM. -/
import Derived.Test.YtfbecmnlbjhjaaaGreatDoorMgVe1
import Derived.Test.YtfbecmnlbjhjaaaGreatDoorMgVa1
/- Package flat, walked: chosen, of numbers, characters and booleans. -/
namespace Go.Proofs.YtfbecmnlbjhjaaaGreatDoor
set_option maxRecDepth 100000
open Go.RowKit
set_option linter.unusedVariables false

theorem info_bool1 : (Tryz.prog.info? 4).map (fun i => (i.zero, i.size, i.bytes)) = some (some (.bool false), 1, 1) := by kernel_rfl
end Go.Proofs.YtfbecmnlbjhjaaaGreatDoor

/- Package flat, walked: chosen, of boxes. -/
namespace Go.Proofs.YtfbecmnlbjhjaaaGreatDoor
set_option maxRecDepth 100000
open Go.RowKit
set_option linter.unusedVariables false

end Go.Proofs.YtfbecmnlbjhjaaaGreatDoor

/- Package flat, walked: Blank, clamp, selected, Pick. -/
namespace Go.Proofs.YtfbecmnlbjhjaaaGreatDoor
set_option maxRecDepth 100000
open Go.RowKit Fl
set_option linter.unusedVariables false

end Go.Proofs.YtfbecmnlbjhjaaaGreatDoor

/- Package flat, walked: selected, Pick. -/
namespace Go.Proofs.YtfbecmnlbjhjaaaGreatDoor
set_option maxRecDepth 100000
open Go.RowKit Fl
set_option linter.unusedVariables false

end Go.Proofs.YtfbecmnlbjhjaaaGreatDoor

/- Package flat, walked: Pick; the rules of places. -/
namespace Go.Proofs.YtfbecmnlbjhjaaaGreatDoor
set_option maxRecDepth 100000
open Go.RowKit Fl
set_option linter.unusedVariables false

end Go.Proofs.YtfbecmnlbjhjaaaGreatDoor

/- Elements at some places, as items: plain. -/
namespace Go.Proofs.YtfbecmnlbjhjaaaGreatDoor
set_option maxRecDepth 100000
open Go.RowKit Fl
set_option linter.unusedVariables false

def gV (d : Nat) (V : VV) : Prop := V.ok ∧ V.nm ∧ V.kind = V.least ∧ ∀ a ∈ V.boxs, gA d a
/-- The items of a vector. -/
def itsA (d : Nat) (V : VV) : List PI := (List.range V.len).map (itA (plA d) V)
theorem itsA_len (d : Nat) (V : VV) : (itsA d V).length = V.len := by simp [itsA]
theorem itsA_get {d : Nat} {V : VV} {k : Nat} (h : k < V.len) : (itsA d V)[k]? = some (itA (plA d) V k) := by simp [itsA, h]
theorem gA_gV {d : Nat} {A : List Int × VV} (h : gA (d + 1) A) : gV d A.2 := ⟨h.2.1, h.2.2.1, h.2.2.2.1, h.2.2.2.2⟩
theorem atI_or {α : Type} (l : List α) (d : α) (i : Int) : (∃ k : Nat, i = (k : Int) ∧ ∃ h : k < l.length, atI l d i = l[k]) ∨ (¬ (0 ≤ i ∧ i < (l.length : Int)) ∧ atI l d i = d) := by
  by_cases h : 0 ≤ i ∧ i < (l.length : Int)
  · obtain ⟨k, rfl⟩ := Int.eq_ofNat_of_zero_le h.1
    exact Or.inl ⟨k, rfl, by omega, atI_nat (by omega)⟩
  · exact Or.inr ⟨h, atI_neg h⟩
/-- Of a good plain array. -/
theorem its_arrP {d : Nat} {p : PA} (h : chk (d + 1) p = 0) : itsA d (arrP (d + 1) p).2 = (tidyP (d + 1) p).l := by
  have e := plA_arrP (d + 1) p h
  have : (plA (d + 1) (arrP (d + 1) p)).l = (tidyP (d + 1) p).l := by rw [e]
  exact this
end Go.Proofs.YtfbecmnlbjhjaaaGreatDoor

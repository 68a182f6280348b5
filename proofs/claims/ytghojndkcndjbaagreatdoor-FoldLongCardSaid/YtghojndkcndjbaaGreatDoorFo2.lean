/- Layer 13's law: FoldRows. -/
import Derived.Test.YtghojndkcndjbaaGreatDoorMgFo2
import Derived.Test.YtghojndkcndjbaaGreatDoorMgSq1
import Derived.Test.YtghojndkcndjbaaGreatDoorMgVe1
namespace Go.Proofs.YtghojndkcndjbaaGreatDoor
set_option maxRecDepth 100000
open Go.RowKit Fl
set_option linter.unusedVariables false

/-- What Fold tells of numbers in any store is what the reference tells of the numbers. -/
theorem fo_meet {f : Int} {V : VV} {t : List Nat} {outer n inner : Nat} (hV : KepK t V) (hl : t.length = outer * n * inner) (hs : outer * inner ≤ 1048576) :
  foE f V outer n inner = rfE f t outer n inner ∧ (rfE f t outer n inner ≠ 0 → foV f V outer n inner = .none) ∧ (rfE f t outer n inner = 0 → (foV f V outer n inner).nums = rfL f t outer n inner ∧ (foV f V outer n inner).ok ∧ (foV f V outer n inner).nm ∧ 0 < (foV f V outer n inner).kind ∧ (n ≠ 1 → (foV f V outer n inner).kind = (foV f V outer n inner).least) ∧ (∀ x ∈ rfL f t outer n inner, Num x) ∧ (rfL f t outer n inner).length ≤ 2000000) := by
 obtain ⟨⟨h1, h2, h3, h4, h5⟩, h6⟩ := hV
 have hl2 : V.nums.length = outer * n * inner := by rw [h4, hl]
 have e : foE f V outer n inner = rfE f t outer n inner := by rw [fold_meet h3 hl2, h4]
 refine ⟨e, fun h => foV_bad (by rw [e]; exact h), fun h => ?_⟩
 obtain ⟨a1, a2, a3, a4⟩ := fold_meetV h1 h2 h3 hl2 hs (e.trans h)
 rw [h4] at a1
 refine ⟨a1, a2, a3, ?_, ?_, ?_, ?_⟩
 ·rcases a4 with a4 | a4
  ·rw [foV_one (e.trans h) a4]; omega
  ·exact a4.1
 ·intro h9; rcases a4 with a4 | a4
  ·exact absurd a4 h9
  ·exact a4.2
 ·rw [← a1]; exact VV.nums_num a2 a3
 ·rw [← a1]; have := VV.ok_len a2; have := VV.nums_lenle (V := foV f V outer n inner); omega
end Go.Proofs.YtghojndkcndjbaaGreatDoor

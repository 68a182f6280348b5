import Derived.Test.YtbacchbcanlciaaGreatDoorMgSc2
import Derived.Test.YtbacchbcanlciaaGreatDoorMgSc1
import Derived.Test.YtbacchbcanlciaaGreatDoorMgFo1
import Derived.Test.YtbacchbcanlciaaGreatDoorMgSq1
import Derived.Test.YtbacchbcanlciaaGreatDoorMgVe1
namespace Go.Proofs.YtbacchbcanlciaaGreatDoor
set_option maxRecDepth 100000
open Go.RowKit Fl
set_option linter.unusedVariables false

theorem sc_meet {f : Int} {V : VV} {t : List Nat} {outer n inner : Nat} (hV : KepK t V) (hl : t.length = outer * n * inner) :
  scE f V outer n inner = rsE f t outer n inner ∧ (rsE f t outer n inner ≠ 0 → scV f V outer n inner = .none) ∧ (rsE f t outer n inner = 0 → (scV f V outer n inner).nums = rsL f t outer n inner ∧ (scV f V outer n inner).ok ∧ (scV f V outer n inner).nm ∧ (¬ n ≤ 1 → (scV f V outer n inner).kind = (scV f V outer n inner).least) ∧ (∀ x ∈ rsL f t outer n inner, Num x) ∧ (rsL f t outer n inner).length ≤ 2000000) := by
 obtain ⟨⟨h1, h2, h3, h4, h5⟩, h6⟩ := hV
 have hl2 : V.nums.length = outer * n * inner := by rw [h4, hl]
 obtain ⟨e, k⟩ := scan_meet (f := f) h1 h2 h3 hl2
 rw [h4] at e k
 refine ⟨e, fun h => scV_bad (by rw [e]; exact h), fun h => ?_⟩
 obtain ⟨a1, a2, a3, a4⟩ := k (e.trans h)
 refine ⟨a1, a2, a3, ?_, ?_, ?_⟩
 ·intro h9; rcases a4 with a4 | a4
  ·exact absurd a4 h9
  ·exact a4.2
 ·rw [← a1]; exact VV.nums_num a2 a3
 ·rw [← a1]; have := VV.ok_len a2; have := VV.nums_lenle (V := scV f V outer n inner); omega
end Go.Proofs.YtbacchbcanlciaaGreatDoor

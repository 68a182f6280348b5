/- The reference's shapes, walked: Place. -/
import Derived.Test.YtbdhibcbpgjbmaaGreatDoorShB
namespace Go.Proofs.YtbdhibcbpgjbmaaGreatDoor
open Go.RowKit
set_option linter.unusedVariables false
set_option maxRecDepth 100000

theorem foldl_nz (l : List Int) : ∀ a : Int, l.foldl (fun n x => if 0 < x then n * x else n) a = a * nzp l := by
 induction l with
 | nil => intro a; simp [nzp]
 | cons x l ih =>
  intro a
  rw [List.foldl_cons, ih]
  have e : nzp (x :: l) = (if 0 < x then x else 1) * nzp l := by
   have := ih (if 0 < x then 1 * x else 1)
   unfold nzp
   rw [List.foldl_cons, this]
   split <;> simp [nzp]
  rw [e]
  split <;> simp [Int.mul_assoc]
theorem nzp_append (s t : List Int) : nzp (s ++ t) = nzp s * nzp t := by
 rw [show nzp (s ++ t) = t.foldl (fun n x => if 0 < x then n * x else n) (nzp s) by simp [nzp, List.foldl_append], foldl_nz]
theorem nzp_cons {x : Int} (h : 0 < x) (l : List Int) : nzp (x :: l) = x * nzp l := by
 have := nzp_append [x] l
 rw [show [x] ++ l = x :: l from rfl] at this
 rw [this]; simp [nzp, h]
theorem nzp_drop_le (s : List Int) (k : Nat) : nzp (s.drop k) ≤ nzp s := by
 have h := nzp_append (s.take k) (s.drop k)
 rw [List.take_append_drop] at h
 have h1 := nzp_pos (s.take k)
 have h2 := nzp_pos (s.drop k)
 have h3 : 1 * nzp (s.drop k) ≤ nzp (s.take k) * nzp (s.drop k) := Int.mul_le_mul_of_nonneg_right h1 (by omega)
 omega
/-- The place of indexes, where there is one. -/
def plc : List Int → List Int → Option Int
 | [], [] => some 0
 | a :: s, j :: t => match plc s t with
  | some p => if 0 ≤ j ∧ j < a then some (j * nzp s + p) else none
  | none => none
 | _, _ => none
theorem plc_up (s t : List Int) (hl : s.length = t.length) : ∀ k, k ≤ s.length → plc (s.drop k) (t.drop k) = none → plc s t = none := by
 intro k
 induction k with
 | zero => intro _ h; simpa using h
 | succ k ih =>
  intro hk h
  apply ih (by omega)
  have hs : k < s.length := by omega
  have ht : k < t.length := by omega
  rw [List.drop_eq_getElem_cons hs, List.drop_eq_getElem_cons ht, plc, h]
theorem plc_bound : ∀ (s t : List Int) (p : Int), plc s t = some p → 0 ≤ p ∧ p < nzp s ∧ ∀ x ∈ s, 0 < x := by
 intro s
 induction s with
 | nil =>
  intro t p h
  cases t with
  | nil => simp [plc] at h; subst h; exact ⟨by omega, by decide, by simp⟩
  | cons j t => simp [plc] at h
 | cons a s ih =>
  intro t p h
  cases t with
  | nil => simp [plc] at h
  | cons j t =>
   rw [plc] at h
   cases hq : plc s t with
   | none => rw [hq] at h; cases h
   | some q =>
    rw [hq] at h
    obtain ⟨h1, h2, h3⟩ := ih t q hq
    simp only at h
    split at h
    ·rename_i hj
     have e := Option.some.inj h
     have hp := nzp_pos s
     have ha : 0 < a := by omega
     have m1 : 0 ≤ j * nzp s := Int.mul_nonneg hj.1 (by omega)
     have m2 : (j + 1) * nzp s ≤ a * nzp s := Int.mul_le_mul_of_nonneg_right (by omega) (by omega)
     rw [Int.add_mul, Int.one_mul] at m2
     rw [nzp_cons ha]
     refine ⟨by omega, by omega, fun x hx => ?_⟩
     rcases List.mem_cons.1 hx with rfl | hx
     ·exact ha
     ·exact h3 x hx
    ·cases h
def placeR (s t : List Int) : Int := if goodS s = true ∧ s.length = t.length then (plc s t).getD (-1) else -1
theorem good_nz {s : List Int} (h : goodS s = true) : nzp s ≤ 1048576 := by
 unfold goodS prodR at h
 split at h
 ·simp at h
 split at h
 ·simp at h
 split at h
 ·simp at h
 ·omega
theorem plc_step {s t : List Int} {j : Nat} {a x p : Int} (ha : s[j]? = some a) (hx : t[j]? = some x) (h : plc (s.drop (j + 1)) (t.drop (j + 1)) = some p) (h1 : 0 ≤ x) (h2 : x < a) :
  plc (s.drop j) (t.drop j) = some (x * nzp (s.drop (j + 1)) + p) ∧ nzp (s.drop j) = a * nzp (s.drop (j + 1)) := by
 obtain ⟨hj, ea⟩ := List.getElem?_eq_some_iff.1 ha
 obtain ⟨hj2, ex⟩ := List.getElem?_eq_some_iff.1 hx
 rw [List.drop_eq_getElem_cons hj, List.drop_eq_getElem_cons hj2, ea, ex, plc, h]
 simp only
 rw [if_pos ⟨h1, h2⟩, nzp_cons (by omega)]
 exact ⟨rfl, rfl⟩
theorem plc_stop {s t : List Int} {j : Nat} {a x p : Int} (ha : s[j]? = some a) (hx : t[j]? = some x) (h : plc (s.drop (j + 1)) (t.drop (j + 1)) = some p) (h1 : ¬ (0 ≤ x ∧ x < a)) : plc (s.drop j) (t.drop j) = none := by
 obtain ⟨hj, ea⟩ := List.getElem?_eq_some_iff.1 ha
 obtain ⟨hj2, ex⟩ := List.getElem?_eq_some_iff.1 hx
 rw [List.drop_eq_getElem_cons hj, List.drop_eq_getElem_cons hj2, ea, ex, plc, h]
 simp only
 rw [if_neg h1]
theorem placeR_none {s t : List Int} (h : plc s t = none) : placeR s t = -1 := by unfold placeR; split <;> simp [h]

end Go.Proofs.YtbdhibcbpgjbmaaGreatDoor

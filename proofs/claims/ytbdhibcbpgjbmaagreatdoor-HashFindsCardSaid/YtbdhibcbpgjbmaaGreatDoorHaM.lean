/- Layer 19, plain: the first place of an item, the ones that no earlier one is like, those that another list has or not. -/
import Derived.Test.YtbdhibcbpgjbmaaGreatDoorFlM
namespace Go.Proofs.YtbdhibcbpgjbmaaGreatDoor
set_option maxRecDepth 100000
open Go.RowKit Fl
set_option linter.unusedVariables false

/-- The first place of an item; how many there are, if there is none. -/
noncomputable def fndI (l : List PI) (x : PI) : Nat := l.findIdx (fun y => iq y x)
theorem fndI_le (l : List PI) (x : PI) : fndI l x ≤ l.length := List.findIdx_le_length
theorem fndI_hit {l : List PI} {x : PI} {k : Nat} (hk : k < l.length) (h : iq (l[k]) x = true) (hn : ∀ j (hj : j < k), iq (l[j]'(by omega)) x = false) : fndI l x = k := by
 unfold fndI
 rw [List.findIdx_eq hk]
 exact ⟨h, fun j hj => by simpa using hn j hj⟩
theorem fndI_none {l : List PI} {x : PI} (hn : ∀ j (hj : j < l.length), iq (l[j]) x = false) : fndI l x = l.length := by
 unfold fndI
 rw [List.findIdx_eq_length]
 intro y hy
 obtain ⟨j, hj, rfl⟩ := List.mem_iff_getElem.1 hy
 exact hn j hj
/-- The places of those that no earlier one is like. -/
noncomputable def frsL (l : List PI) : List Nat := (List.range l.length).filter (fun i => decide (fndI l (atI l (blankI 0) (i : Int)) = i))
/-- The places of those that another list has, or has not. -/
noncomputable def witP (l m : List PI) (keep : Bool) : List Nat := (List.range l.length).filter (fun i => decide (fndI m (atI l (blankI 0) (i : Int)) < m.length) == keep)
noncomputable def witL (l m : List PI) (keep : Bool) : List PI := l.filter (fun x => decide (fndI m x < m.length) == keep)
theorem filter_range_snoc (p : Nat → Bool) (k : Nat) : ((List.range (k + 1)).filter p) = (List.range k).filter p ++ (if p k then [k] else []) := by
 rw [List.range_succ, List.filter_append]
 congr 1
 by_cases h : p k
 ·rw [if_pos h]; simp [h]
 ·rw [if_neg h]; simp [h]
theorem frsL_lt {l : List PI} : ∀ x ∈ frsL l, x < l.length := fun x hx => List.mem_range.1 (List.mem_filter.1 hx).1
theorem witP_lt {l m : List PI} {keep : Bool} : ∀ x ∈ witP l m keep, x < l.length := fun x hx => List.mem_range.1 (List.mem_filter.1 hx).1
theorem map_filter_range {α : Type} (l : List α) (d : α) (p : α → Bool) : ((List.range l.length).filter (fun (i : Nat) => p (atI l d (i : Int)))).map (fun (i : Nat) => atI l d (i : Int)) = l.filter p := by
 have e : l = (List.range l.length).map (fun (i : Nat) => atI l d (i : Int)) := by
  apply List.ext_getElem (by simp)
  intro i h1 h2
  rw [List.getElem_map, List.getElem_range, atI_nat h1]
 conv => rhs; rw [e]
 rw [List.filter_map]
 rfl
theorem witP_map (l m : List PI) (keep : Bool) : (witP l m keep).map (fun (i : Nat) => atI l (blankI 0) (i : Int)) = witL l m keep := map_filter_range l (blankI 0) (fun x => decide (fndI m x < m.length) == keep)
theorem wit_parts (l m : List PI) : (witL l m false).length + (witL l m true).length = l.length := by
 unfold witL
 induction l with
 | nil => rfl
 | cons x l ih =>
  rw [List.filter_cons, List.filter_cons]
  cases decide (fndI m x < m.length)
  ·rw [if_pos (show (false == false) = true from rfl), if_neg (show ¬ (false == true) = true by decide), List.length_cons, List.length_cons]; omega
  ·rw [if_neg (show ¬ (true == false) = true by decide), if_pos (show (true == true) = true from rfl), List.length_cons, List.length_cons]; omega
/-- What a list of firsts is: none of it twice. -/
theorem fndI_lt {l : List PI} {x : PI} (h : x ∈ l) : fndI l x < l.length := by
 unfold fndI
 rw [List.findIdx_lt_length]
 exact ⟨x, h, iq_yes rfl⟩
end Go.Proofs.YtbdhibcbpgjbmaaGreatDoor

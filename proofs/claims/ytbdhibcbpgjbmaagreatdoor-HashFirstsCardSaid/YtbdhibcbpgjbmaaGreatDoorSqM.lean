/- Numbers and the least store that they fit: plain. -/
import Derived.Test.YtbdhibcbpgjbmaaGreatDoorNuB
namespace Go.Proofs.YtbdhibcbpgjbmaaGreatDoor
set_option maxRecDepth 100000
open Go.RowKit Fl
set_option linter.unusedVariables false

/-- The whole number of a word that is one. -/
def wnOf (x : Nat) : Int := V x / pw 1074
theorem wnOf_wh {x : Nat} {n : Int} (h : Wh x n) : wnOf x = n := by
  unfold wnOf
  rw [h.2.2]
  exact Int.mul_ediv_cancel _ (by have := pw_pos 1074; omega)
theorem wh_unique {x : Nat} {n m : Int} (h : Wh x n) (k : Wh x m) : n = m := (wnOf_wh h).symm.trans (wnOf_wh k)
theorem num_of_wh {x : Nat} {n : Int} (hx : Num x) (h : Wh x n) : x = floatOfInt .f64 n := by
  have h1 : Num (floatOfInt .f64 n) := by
    refine ⟨ofInt_fin n (by have := h.2.1; omega), fun hz => ?_⟩
    have hv := ofInt_val n h.2.1
    rw [V_eq_zero.2 hz] at hv
    have hp := pw_pos 1074
    have hn : n = 0 := by
      rcases Int.mul_eq_zero.1 hv.symm with h | h
      · exact h
      · omega
    subst hn
    decide +kernel
  exact V_inj hx h1 (h.2.2.trans (ofInt_val n h.2.1).symm)
/-- The least kind of a whole number; of a number. -/
def kindZ (n : Int) : Nat := if n = 0 ∨ n = 1 then 1 else if -128 ≤ n ∧ n ≤ 127 then 2 else 3
open Classical in
noncomputable def kindW (x : Nat) : Nat := if ∃ n, Wh x n then kindZ (wnOf x) else 4
theorem kindW_wh {x : Nat} {n : Int} (h : Wh x n) : kindW x = kindZ n := by unfold kindW; rw [if_pos ⟨n, h⟩, wnOf_wh h]
theorem kindW_no {x : Nat} (h : ∀ n, ¬ Wh x n) : kindW x = 4 := by unfold kindW; rw [if_neg (fun ⟨n, hn⟩ => h n hn)]
theorem kindZ_le (n : Int) : 1 ≤ kindZ n ∧ kindZ n ≤ 3 := by unfold kindZ; split <;> (try split) <;> omega
theorem kindW_le (x : Nat) : 1 ≤ kindW x ∧ kindW x ≤ 4 := by
  by_cases h : ∃ n, Wh x n
  · obtain ⟨n, hn⟩ := h
    rw [kindW_wh hn]
    have := kindZ_le n
    omega
  · rw [kindW_no (fun n hn => h ⟨n, hn⟩)]; omega
theorem kindW_lt {x : Nat} (h : kindW x < 4) : ∃ n, Wh x n ∧ kindW x = kindZ n := by
  by_cases hw : ∃ n, Wh x n
  · obtain ⟨n, hn⟩ := hw; exact ⟨n, hn, kindW_wh hn⟩
  · rw [kindW_no (fun n hn => hw ⟨n, hn⟩)] at h; omega
/-- The least kind of numbers. -/
noncomputable def leastW (l : List Nat) : Nat := l.foldl (fun k x => max k (kindW x)) 1
theorem leastW_nil : leastW [] = 1 := rfl
theorem foldl_max (l : List Nat) : ∀ a, l.foldl (fun k x => max k (kindW x)) a = max a (l.foldl (fun k x => max k (kindW x)) 0) := by
  induction l with
  | nil => intro a; simp
  | cons x l ih => intro a; rw [List.foldl_cons, List.foldl_cons, ih, ih (max 0 (kindW x))]; omega
theorem leastW_append (l m : List Nat) : leastW (l ++ m) = max (leastW l) (leastW m) := by
  unfold leastW
  rw [List.foldl_append, foldl_max m (List.foldl _ 1 l), foldl_max m 1, foldl_max l 1]
  omega
theorem leastW_one (x : Nat) : leastW [x] = kindW x := by unfold leastW; have := kindW_le x; simp; omega
theorem leastW_cons (x : Nat) (l : List Nat) : leastW (x :: l) = max (kindW x) (leastW l) := by
  have := leastW_append [x] l
  rwa [leastW_one] at this
theorem leastW_take {l : List Nat} {k : Nat} {x : Nat} (h : l[k]? = some x) : leastW (l.take (k + 1)) = max (leastW (l.take k)) (kindW x) := by
  obtain ⟨hk, e⟩ := List.getElem?_eq_some_iff.1 h
  rw [List.take_succ_eq_append_getElem hk, leastW_append, e, leastW_one]
theorem leastW_le (l : List Nat) : 1 ≤ leastW l ∧ leastW l ≤ 4 := by
  induction l with
  | nil => rw [leastW_nil]; omega
  | cons x l ih => rw [leastW_cons]; have := kindW_le x; omega
theorem leastW_mem {l : List Nat} {x : Nat} (h : x ∈ l) : kindW x ≤ leastW l := by
  induction l with
  | nil => cases h
  | cons y l ih =>
    rw [leastW_cons]
    rcases List.mem_cons.1 h with rfl | h
    · omega
    · have := ih h; omega
theorem leastW_all {l : List Nat} {k : Nat} (h1 : 1 ≤ k) (h : ∀ x ∈ l, kindW x ≤ k) : leastW l ≤ k := by
  induction l with
  | nil => rw [leastW_nil]; exact h1
  | cons y l ih =>
    rw [leastW_cons]
    have a := h y List.mem_cons_self
    have b := ih (fun x hx => h x (List.mem_cons_of_mem _ hx))
    omega
theorem leastW_le_iff {l : List Nat} {k : Nat} (h1 : 1 ≤ k) : leastW l ≤ k ↔ ∀ x ∈ l, kindW x ≤ k := ⟨fun h x hx => Nat.le_trans (leastW_mem hx) h, leastW_all h1⟩
theorem leastW_four {l : List Nat} {x : Nat} (h : x ∈ l) (hx : kindW x = 4) : leastW l = 4 := by have a := leastW_mem h; have b := (leastW_le l).2; omega
/-- Numbers of a kind below 4 are whole numbers. -/
theorem whole_list {l : List Nat} (hN : ∀ x ∈ l, Num x) (h : leastW l < 4) : l = (l.map wnOf).map (floatOfInt .f64) ∧ ∀ n ∈ l.map wnOf, n.natAbs ≤ 9007199254740992 ∧ kindZ n ≤ leastW l := by
  constructor
  · rw [List.map_map]
    apply List.ext_getElem (by simp)
    intro i h1 h2
    have hm := List.getElem_mem h1
    have hk := leastW_mem hm
    obtain ⟨n, hn, _⟩ := kindW_lt (x := l[i]) (by omega)
    simp only [List.getElem_map, Function.comp]
    rw [wnOf_wh hn]
    exact num_of_wh (hN _ hm) hn
  · intro n hn
    obtain ⟨x, hx, rfl⟩ := List.mem_map.1 hn
    have hk := leastW_mem hx
    obtain ⟨m, hm, e⟩ := kindW_lt (x := x) (by omega)
    rw [wnOf_wh hm]
    exact ⟨hm.2.1, by omega⟩
end Go.Proofs.YtbdhibcbpgjbmaaGreatDoor

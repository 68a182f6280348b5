/- Plain arrays, the document's functions walked: Depth. -/
import Derived.Test.YtbdhibcbpgjbmaaGreatDoorVaE
namespace Go.Proofs.YtbdhibcbpgjbmaaGreatDoor
open Go.RowKit Fl
set_option linter.unusedVariables false
set_option maxRecDepth 100000

def mx (l : List Int) : Int := l.foldl max 0
theorem mx_snoc (l : List Int) (x : Int) : mx (l ++ [x]) = max (mx l) x := by simp [mx, List.foldl_append]
theorem mx_le {l : List Int} {n : Int} (h0 : 0 ≤ n) (h : ∀ x ∈ l, x ≤ n) : mx l ≤ n := by
 have : ∀ (l : List Int) (a : Int), a ≤ n → (∀ x ∈ l, x ≤ n) → l.foldl max a ≤ n := by
  intro l
  induction l with
  | nil => intro a ha _; exact ha
  | cons y l ih =>
   intro a ha hl
   rw [List.foldl_cons]
   exact ih _ (by have := hl y (List.mem_cons_self ..); omega) (fun x hx => hl x (List.mem_cons_of_mem _ hx))
 exact this l 0 h0 h
theorem mx_nonneg (l : List Int) : 0 ≤ mx l := by
 have : ∀ (l : List Int) (a : Int), 0 ≤ a → 0 ≤ l.foldl max a := by
  intro l
  induction l with
  | nil => intro a ha; exact ha
  | cons y l ih => intro a ha; rw [List.foldl_cons]; exact ih _ (by omega)
 exact this l 0 (Int.le_refl _)
theorem mx_take {α : Type} {l : List α} {f : α → Int} {k : Nat} {x : α} (h : l[k]? = some x) : mx ((l.take (k + 1)).map f) = max (mx ((l.take k).map f)) (f x) := by
 rw [ptake h, List.map_append, List.map_cons, List.map_nil, mx_snoc]
/-- How deep boxes lie in one another. -/
def depP : Nat → PA → Int
 | 0, _ => 0
 | d + 1, p => if p.f = 2 then mx (p.l.map fun x => depP d (hd x.2.2.2)) + 1 else if 0 < p.s.length then 1 else 0
theorem depP_bd (d : Nat) : ∀ p, 0 ≤ depP d p ∧ depP d p ≤ d := by
 induction d with
 | zero => intro p; simp [depP]
 | succ d ih =>
  intro p
  simp only [depP]
  split
  ·have h1 := mx_nonneg (p.l.map fun x => depP d (hd x.2.2.2))
   have h2 : mx (p.l.map fun x => depP d (hd x.2.2.2)) ≤ d := mx_le (by omega) (by
    intro x hx
    obtain ⟨y, _, rfl⟩ := List.mem_map.1 hx
    exact (ih _).2)
   omega
  ·split <;> omega

end Go.Proofs.YtbdhibcbpgjbmaaGreatDoor

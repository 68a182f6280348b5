/- Merged: OrM, OrN, OrP, OrQ, OrA, OrB, OrR, OrE, OrS. -/
import Derived.Test.YtbdhibcbpgjbmaaGreatDoorMgPi1
import Derived.Test.YtbdhibcbpgjbmaaGreatDoorMgRe1
import Derived.Test.YtbdhibcbpgjbmaaGreatDoorMgVe1
import Derived.Test.YtbdhibcbpgjbmaaGreatDoorMgFl1
import Derived.Test.YtbdhibcbpgjbmaaGreatDoorMgVa1
import Derived.Test.YtbdhibcbpgjbmaaGreatDoorMgVa2
/- Layer 16, plain: a strict total order of the first n numbers: how many are ahead of each, the one list in order. -/
namespace Go.Proofs.YtbdhibcbpgjbmaaGreatDoor
set_option maxRecDepth 100000
set_option linter.unusedVariables false

end Go.Proofs.YtbdhibcbpgjbmaaGreatDoor

/- Layer 16, plain: cells of keys, the first difference; cells and their places are in a strict total order. -/
namespace Go.Proofs.YtbdhibcbpgjbmaaGreatDoor
set_option maxRecDepth 100000
set_option linter.unusedVariables false

end Go.Proofs.YtbdhibcbpgjbmaaGreatDoor

/- Layer 16, plain: the keys of a vector's elements, how they stand. -/
namespace Go.Proofs.YtbdhibcbpgjbmaaGreatDoor
set_option maxRecDepth 100000
open Go.RowKit Fl
set_option linter.unusedVariables false

/-- An element's key: a number's value, a character's code point. -/
def keyV (A : VV) (k : Nat) : Int := if A.cls = 0 then V (atI A.nums 0 (k : Int)) else atI A.text 0 (k : Int)
end Go.Proofs.YtbdhibcbpgjbmaaGreatDoor

/- Layer 16, plain: places, each once; where each stands. -/
namespace Go.Proofs.YtbdhibcbpgjbmaaGreatDoor
set_option maxRecDepth 100000
open Go.RowKit Fl
set_option linter.unusedVariables false

end Go.Proofs.YtbdhibcbpgjbmaaGreatDoor

/- Layer 16, walked: isNaN, cmp.Compare (of floats, of runes), exists, Has, count, Compare. -/
namespace Go.Proofs.YtbdhibcbpgjbmaaGreatDoor
set_option maxRecDepth 100000
open Go.RowKit Fl
set_option linter.unusedVariables false

end Go.Proofs.YtbdhibcbpgjbmaaGreatDoor

/- Layer 16, walked: Cells, Less. -/
namespace Go.Proofs.YtbdhibcbpgjbmaaGreatDoor
set_option maxRecDepth 100000
open Go.RowKit Fl
set_option linter.unusedVariables false

end Go.Proofs.YtbdhibcbpgjbmaaGreatDoor

/- Layer 16, plain: the one list made place by place; how often numbers come up; the example. -/
namespace Go.Proofs.YtbdhibcbpgjbmaaGreatDoor
set_option maxRecDepth 100000
open Go.RowKit Fl
set_option linter.unusedVariables false

/-- The list as ints. -/
def zL (l : List Nat) : List Int := l.map (fun p : Nat => (p : Int))
theorem zL_len (l : List Nat) : (zL l).length = l.length := by simp [zL]
end Go.Proofs.YtbdhibcbpgjbmaaGreatDoor

/- Layer 16, walked: the reference's Below, Cells, Less. -/
namespace Go.Proofs.YtbdhibcbpgjbmaaGreatDoor
set_option maxRecDepth 100000
open Go.RowKit Fl
set_option linter.unusedVariables false

/-- An item's key. -/
def keyP (p : PI) : Int := if p.1 = 0 then V p.2.1 else p.2.2.1
/-- Items of one kind, their keys. -/
def Keyed (l : List PI) (K : Nat → Int) : Prop := (∀ (i k : Nat) (p q : PI), l[i]? = some p → l[k]? = some q → q.1 = p.1 ∧ (p.1 = 0 → Fnt p.2.1 ∧ Fnt q.2.1)) ∧ ∀ (i : Nat) (p : PI), l[i]? = some p → keyP p = K i
end Go.Proofs.YtbdhibcbpgjbmaaGreatDoor

/- Layer 16, plain: the keys of a good array's vector and of its items. -/
namespace Go.Proofs.YtbdhibcbpgjbmaaGreatDoor
set_option maxRecDepth 100000
open Go.RowKit Fl
set_option linter.unusedVariables false

theorem keyed_its {d : Nat} {A : VV} (h : A.cls < 2) (hN : ∀ x ∈ A.nums, Fnt x) : Keyed (itsA d A) (keyV A) := by
  rcases VV.cls_cases A with c | c | c
  · rw [its_num c]
    have key : ∀ (i : Nat) (p : PI), (A.nums.map fun x => ((0 : Int), x, (0 : Int), ([] : List PA)))[i]? = some p → ∃ x, A.nums[i]? = some x ∧ p = (0, x, 0, []) := by
      intro i p hp
      rw [List.getElem?_map] at hp
      cases hx : A.nums[i]? with
      | none => rw [hx] at hp; cases hp
      | some x => rw [hx] at hp; exact ⟨x, rfl, (Option.some.inj hp).symm⟩
    refine ⟨fun i k p q hp hq => ?_, fun i p hp => ?_⟩
    · obtain ⟨x, hx, rfl⟩ := key i p hp
      obtain ⟨y, hy, rfl⟩ := key k q hq
      exact ⟨rfl, fun _ => ⟨hN x (List.mem_of_getElem? hx), hN y (List.mem_of_getElem? hy)⟩⟩
    · obtain ⟨x, hx, rfl⟩ := key i p hp
      unfold keyV keyP
      rw [if_pos c, if_pos rfl, atI_some hx]
  · rw [its_chr c]
    have key : ∀ (i : Nat) (p : PI), (A.text.map fun x => ((1 : Int), (0 : Nat), x, ([] : List PA)))[i]? = some p → ∃ x, A.text[i]? = some x ∧ p = (1, 0, x, []) := by
      intro i p hp
      rw [List.getElem?_map] at hp
      cases hx : A.text[i]? with
      | none => rw [hx] at hp; cases hp
      | some x => rw [hx] at hp; exact ⟨x, rfl, (Option.some.inj hp).symm⟩
    refine ⟨fun i k p q hp hq => ?_, fun i p hp => ?_⟩
    · obtain ⟨x, hx, rfl⟩ := key i p hp
      obtain ⟨y, hy, rfl⟩ := key k q hq
      exact ⟨rfl, fun h => by cases h⟩
    · obtain ⟨x, hx, rfl⟩ := key i p hp
      unfold keyV keyP
      rw [if_neg (show ¬ A.cls = 0 by omega), atI_some hx]; rfl
  · omega
/-- A checked array: its vector, its items. -/
theorem good_vec {p : PA} (h : chk 40 p = 0) : (arrP 40 p).2.cls = p.f ∧ (arrP 40 p).2.len = p.l.length ∧ (∀ x ∈ (arrP 40 p).2.nums, Fnt x) ∧ p.l.length ≤ 1048576 ∧ (p.f < 2 → Keyed (tidyP 40 p).l (keyV (arrP 40 p).2)) ∧ (tidyP 40 p).l.length = p.l.length := by
  obtain ⟨h1, h2, _⟩ := arrP_len h
  have hg := gA_gV (d := 39) (arrP_good 40 p h)
  have hN : ∀ x ∈ (arrP 40 p).2.nums, Fnt x := fun x hx => (VV.nums_num hg.1 hg.2.1 x hx).1
  have hi := its_arrP (d := 39) h
  refine ⟨h2, h1, hN, len_chk (d := 39) h, fun hf => ?_, ?_⟩
  · rw [← hi]; exact keyed_its (by rw [h2]; exact hf) hN
  · rw [← hi, itsA_len, h1]
theorem fld_arr16 (x y : Value) (w : World) : (Instr.field 38 (.agg #[x, y]) 1).run Tryz.prog w = .ok (.agg #[y]) w := by kernel_rfl
end Go.Proofs.YtbdhibcbpgjbmaaGreatDoor

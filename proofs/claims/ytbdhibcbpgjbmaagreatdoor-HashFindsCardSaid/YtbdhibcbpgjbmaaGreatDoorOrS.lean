/- Layer 16, plain: the keys of a good array's vector and of its items. -/
import Derived.Test.YtbdhibcbpgjbmaaGreatDoorOrE
import Derived.Test.YtbdhibcbpgjbmaaGreatDoorFmC
import Derived.Test.YtbdhibcbpgjbmaaGreatDoorPiG
import Derived.Test.YtbdhibcbpgjbmaaGreatDoorVaB
namespace Go.Proofs.YtbdhibcbpgjbmaaGreatDoor
set_option maxRecDepth 100000
open Go.RowKit Fl
set_option linter.unusedVariables false

theorem keyed_its {d : Nat} {A : VV} (h : A.cls < 2) (hN : ∀ x ∈ A.nums, Fnt x) : Keyed (itsA d A) (keyV A) := by
 rcases VV.cls_cases A with c | c | c
 ·rw [its_num c]
  have key : ∀ (i : Nat) (p : PI), (A.nums.map fun x => ((0 : Int), x, (0 : Int), ([] : List PA)))[i]? = some p → ∃ x, A.nums[i]? = some x ∧ p = (0, x, 0, []) := by
   intro i p hp
   rw [List.getElem?_map] at hp
   cases hx : A.nums[i]? with
   | none => rw [hx] at hp; cases hp
   | some x => rw [hx] at hp; exact ⟨x, rfl, (Option.some.inj hp).symm⟩
  refine ⟨fun i k p q hp hq => ?_, fun i p hp => ?_⟩
  ·obtain ⟨x, hx, rfl⟩ := key i p hp
   obtain ⟨y, hy, rfl⟩ := key k q hq
   exact ⟨rfl, fun _ => ⟨hN x (List.mem_of_getElem? hx), hN y (List.mem_of_getElem? hy)⟩⟩
  ·obtain ⟨x, hx, rfl⟩ := key i p hp
   unfold keyV keyP
   rw [if_pos c, if_pos rfl, atI_some hx]
 ·rw [its_chr c]
  have key : ∀ (i : Nat) (p : PI), (A.text.map fun x => ((1 : Int), (0 : Nat), x, ([] : List PA)))[i]? = some p → ∃ x, A.text[i]? = some x ∧ p = (1, 0, x, []) := by
   intro i p hp
   rw [List.getElem?_map] at hp
   cases hx : A.text[i]? with
   | none => rw [hx] at hp; cases hp
   | some x => rw [hx] at hp; exact ⟨x, rfl, (Option.some.inj hp).symm⟩
  refine ⟨fun i k p q hp hq => ?_, fun i p hp => ?_⟩
  ·obtain ⟨x, hx, rfl⟩ := key i p hp
   obtain ⟨y, hy, rfl⟩ := key k q hq
   exact ⟨rfl, fun h => by cases h⟩
  ·obtain ⟨x, hx, rfl⟩ := key i p hp
   unfold keyV keyP
   rw [if_neg (show ¬ A.cls = 0 by omega), atI_some hx]; rfl
 ·omega
/-- A checked array: its vector, its items. -/
theorem good_vec {p : PA} (h : chk 40 p = 0) : (arrP 40 p).2.cls = p.f ∧ (arrP 40 p).2.len = p.l.length ∧ (∀ x ∈ (arrP 40 p).2.nums, Fnt x) ∧ p.l.length ≤ 1048576 ∧ (p.f < 2 → Keyed (tidyP 40 p).l (keyV (arrP 40 p).2)) ∧ (tidyP 40 p).l.length = p.l.length := by
 obtain ⟨h1, h2, _⟩ := arrP_len h
 have hg := gA_gV (d := 39) (arrP_good 40 p h)
 have hN : ∀ x ∈ (arrP 40 p).2.nums, Fnt x := fun x hx => (VV.nums_num hg.1 hg.2.1 x hx).1
 have hi := its_arrP (d := 39) h
 refine ⟨h2, h1, hN, len_chk (d := 39) h, fun hf => ?_, ?_⟩
 ·rw [← hi]; exact keyed_its (by rw [h2]; exact hf) hN
 ·rw [← hi, itsA_len, h1]
theorem At1.put1O {w : World} {b : Nat} {u : Value} (h : At1 w b u) (x : Value) : At1 (w.setCell ⟨b, 0, none⟩ x) b x :=
 ⟨by simpa using h.1, World.cell?_setCell_same _ _ _ h.2.1, fun o => by simpa using h.2.2 o⟩
theorem fld_arr16 (x y : Value) (w : World) : (Instr.field 38 (.agg #[x, y]) 1).run Tryz.prog w = .ok (.agg #[y]) w := by kernel_rfl
end Go.Proofs.YtbdhibcbpgjbmaaGreatDoor

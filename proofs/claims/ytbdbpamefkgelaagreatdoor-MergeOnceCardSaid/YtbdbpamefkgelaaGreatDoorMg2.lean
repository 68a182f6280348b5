/- Layer 18's law: MergeGrades. -/
import Derived.Test.YtbdbpamefkgelaaGreatDoorMgMg1
import Derived.Test.YtbdbpamefkgelaaGreatDoorMgRx1
import Derived.Test.YtbdbpamefkgelaaGreatDoorMgOr1
import Derived.Test.YtbdbpamefkgelaaGreatDoorMgVa1
namespace Go.Proofs.YtbdbpamefkgelaaGreatDoor
set_option maxRecDepth 100000
open Go.RowKit Fl
set_option linter.unusedVariables false

theorem fld_its18 (x y z : Value) (w : World) : (Instr.field 32 (.agg #[x, y, z]) 1).run Tryz.prog w = .ok y w := by kernel_rfl
theorem text_none3 {A : VV} (h : A.cls ≠ 1) : A.text = [] := by cases A <;> first | rfl | exact absurd rfl h
theorem text_arr18 {p : PA} (h : chk 40 p = 0) (hc : chO p) : ∀ z ∈ (arrP 40 p).2.text, -2147483648 ≤ z ∧ z ≤ 2147483647 := by
  intro z hz
  by_cases h1 : p.f = 1
  · have e : (arrP 40 p).2.text = p.l.map (fun x => x.2.2.1) := by
      simp only [arrP]; rw [if_pos h1]; rfl
    rw [e] at hz
    obtain ⟨x, hx, rfl⟩ := List.mem_map.1 hz
    exact hc x hx
  · rw [text_none3 (by rw [(arrP_len h).2.1]; exact h1)] at hz
    cases hz
theorem kind_none {p : PA} (h : chk 40 p = 0) : (arrP 40 p).2.kind ≠ 0 := by
  intro e
  have hg := gA_gV (d := 39) (arrP_good 40 p h)
  have hk := hg.2.2.1
  rw [VV.kind_cases _ e] at hk
  have : 1 ≤ leastW [] := (leastW_le []).1
  simp only [VV.kind, VV.least, VV.nums] at hk
  omega
theorem MgYes.of {A : VV} {size : Nat} {down : Bool} {w : World} {e : Ending} {w' : World} {n : Nat} (h : MgYes A size down w e w') (hn : A.len = n) : ∃ v, e = .returned (.tuple #[v, .bool true]) ∧ Slc w' (fun _ => True) v (n / size) (ints (zL (mgL A size down))) ∧ Below w.heap.size w w' := by
  obtain ⟨v, h1, h2, h3⟩ := h
  rw [hn] at h2
  exact ⟨v, h1, h2.any, h3⟩
end Go.Proofs.YtbdbpamefkgelaaGreatDoor

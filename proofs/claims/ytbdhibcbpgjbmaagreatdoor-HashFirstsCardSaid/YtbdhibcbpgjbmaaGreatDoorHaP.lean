/- Layer 19's laws, plain: what good plain arrays hold. -/
import Derived.Test.YtbdhibcbpgjbmaaGreatDoorHaH
import Derived.Test.YtbdhibcbpgjbmaaGreatDoorHaA
import Derived.Test.YtbdhibcbpgjbmaaGreatDoorRxQ
import Derived.Test.YtbdhibcbpgjbmaaGreatDoorOrS
import Derived.Test.YtbdhibcbpgjbmaaGreatDoorVaW
import Derived.Test.YtbdhibcbpgjbmaaGreatDoorVaB
import Derived.Test.YtbdhibcbpgjbmaaGreatDoorBvK
namespace Go.Proofs.YtbdhibcbpgjbmaaGreatDoor
set_option maxRecDepth 100000
open Go.RowKit Fl
set_option linter.unusedVariables false

theorem fld_its19 (x y z : Value) (w : World) : (Instr.field 25 (.agg #[x, y, z]) 1).run Tryz.prog w = .ok y w := by kernel_rfl
theorem text_none19b {A : VV} (h : A.cls ≠ 1) : A.text = [] := by cases A <;> first | rfl | exact absurd rfl h
theorem text_arr19 {p : PA} (h : chk 40 p = 0) (hc : chO p) : ∀ z ∈ (arrP 40 p).2.text, -2147483648 ≤ z ∧ z ≤ 2147483647 := by
 intro z hz
 by_cases h1 : p.f = 1
 ·have e : (arrP 40 p).2.text = p.l.map (fun x => x.2.2.1) := by
   simp only [arrP]; rw [if_pos h1]; rfl
  rw [e] at hz
  obtain ⟨x, hx, rfl⟩ := List.mem_map.1 hz
  exact hc x hx
 ·rw [text_none19b (by rw [(arrP_len h).2.1]; exact h1)] at hz
  cases hz
theorem info_int_ex : ∃ i0, Tryz.prog.info? 3 = some i0 ∧ i0.zero = some (.int .i64 0) ∧ i0.size = 1 ∧ i0.bytes = 8 := info_parts info_int
theorem info_bool_ex : ∃ i0, Tryz.prog.info? 4 = some i0 ∧ i0.zero = some (.bool false) ∧ i0.size = 1 ∧ i0.bytes = 1 := info_parts info_bool1
theorem bools_eq19 {ok ok2 : Nat → Prop} (v1 v2 : Value) (l : List Bool) (n : Nat) (w : World) (h1 : Slc w ok v1 n (bools l)) (h2 : Slc w ok2 v2 n (bools l)) (hn : l.length = n) (hm : n ≤ 2000000) :
  Calls Tryz.prog 13 #[v1, v2] w fun e w' => e = .returned (.bool true) ∧ Below w.heap.size w w' := by
 subst hn
 have e : (l == l) = true := by simp
 rw [← e]
 exact bools_calls v1 v2 l l w h1.1.sl h2.1.sl (by unfold maxLen; omega)
/-- What a good plain array holds. -/
structure Hold (p : PA) (A : VV) (n : Nat) (f : Int) : Prop where
 hg : hG A
 cls : A.cls = f
 len : A.len = n
 its : itsA 39 A = (tidyP 40 p).l
 tl : (tidyP 40 p).l.length = n
 ok : ∀ y ∈ (tidyP 40 p).l, okI 39 y
theorem hold_of {p : PA} (h : chk 40 p = 0) (hc : chO p) : Hold p (arrP 40 p).2 p.l.length p.f := by
 obtain ⟨v1, v2, v3, v4, v5, v6⟩ := good_vec h
 exact ⟨⟨gA_gV (d := 39) (arrP_good 40 p h), text_arr19 h hc⟩, v1, v2, its_arrP (d := 39) h, v6, nice_tidy 40 p h⟩
end Go.Proofs.YtbdhibcbpgjbmaaGreatDoor

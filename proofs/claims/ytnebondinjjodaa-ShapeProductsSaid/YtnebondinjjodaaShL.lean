/- ShapeProducts, all ways. -/
import Derived.Test.YtnebondinjjodaaShG
namespace Go.Proofs.Ytnebondinjjodaa
open Go.RowKit
set_option linter.unusedVariables false
set_option maxRecDepth 8000

theorem shapeProducts_calls (w : World) (v : Value) (s : List Int) (hr1 : RowC w v (s.map (Value.int .i64))) (hz1 : ∀ z ∈ s, (Lit.int .i64 z).wf = true) (hl1 : s.length ≤ maxLen) (most : Int) (hm : (Lit.int .i64 most).wf = true) :
    Calls Try.prog 3 #[v, .int .i64 most] w fun e w' => e = .returned (.bool true) ∧ Below w.heap.size w w' := by
  have HS := Lib.hid (show Slc w (fun _ => True) v s.length (ints s) by have := hr1.slc; rw [List.length_map] at this; exact this)
  unfold maxLen at hl1
  clear hr1 hz1 hm
  by_cases hb1 : 60 < s.length
  · obtain ⟨ao, cap, rfl, _⟩ := HS.out.opened
    go_enter Try.func3, Try.ntmps3
    go_wp2_with fail
    refine (awake6_calls _).mono ?_
    rintro e w1 ⟨rfl, hB⟩
    have HB := Lib.hid hB
    clear hB
    go_wp2
    go_ret
    exact ⟨rfl, HB.out⟩
  · exact shProducts_core w v s most HS (by omega)
end Go.Proofs.Ytnebondinjjodaa

/- ShapePlaces, all ways. -/
import Derived.Test.YtnebondinjjodaaShJ
namespace Go.Proofs.Ytnebondinjjodaa
open Go.RowKit
set_option linter.unusedVariables false
set_option maxRecDepth 8000

theorem shapePlaces_calls (w : World) (v : Value) (s : List Int) (hr1 : RowC w v (s.map (Value.int .i64))) (hz1 : ∀ z ∈ s, (Lit.int .i64 z).wf = true) (hl1 : s.length ≤ maxLen) :
    Calls Try.prog 4 #[v] w fun e w' => e = .returned (.bool true) ∧ Below w.heap.size w w' := by
  have HS := Lib.hid (show Slc w (fun _ => True) v s.length (ints s) by have := hr1.slc; rw [List.length_map] at this; exact this)
  unfold maxLen at hl1
  have HL3 := Lib.hid (show s.length ≤ 9223372036854775807 by omega)
  clear hr1 hz1
  obtain ⟨n, f, hp⟩ : ∃ n f, prodR s 400 = (n, f) := ⟨_, _, rfl⟩
  have HP := Lib.hid hp
  by_cases hb1 : 60 < s.length
  · obtain ⟨ao, cap, rfl, _⟩ := HS.out.opened
    clear hp
    go_enter Try.func4, Try.ntmps4
    go_wp2_with fail
    refine (rproduct_calls _ s 400 _ HS.out HL3.out).mono ?_
    rintro e w1 ⟨rfl, rfl⟩
    rw [HP.out]
    go_wp2_with fail
    refine (awake6_calls _).mono ?_
    rintro e w1 ⟨rfl, hB⟩
    have HB := Lib.hid hB
    clear hB
    go_wp2
    go_ret
    exact ⟨rfl, HB.out⟩
  by_cases hf : f = 0
  · subst hf
    exact shPlaces_core w v s n HS (by omega) HP
  · obtain ⟨ao, cap, rfl, _⟩ := HS.out.opened
    have hfb : (f != 0) = true := by simpa using hf
    have hfc : (f == 0) = false := by simpa using hf
    clear hp
    go_enter Try.func4, Try.ntmps4
    go_wp2_with fail
    refine (rproduct_calls _ s 400 _ HS.out HL3.out).mono ?_
    rintro e w1 ⟨rfl, rfl⟩
    rw [HP.out]
    go_wp2_with fail
    refine (awake6_calls _).mono ?_
    rintro e w1 ⟨rfl, hB⟩
    have HB := Lib.hid hB
    clear hB
    go_wp2
    go_ret
    exact ⟨rfl, HB.out⟩
end Go.Proofs.Ytnebondinjjodaa

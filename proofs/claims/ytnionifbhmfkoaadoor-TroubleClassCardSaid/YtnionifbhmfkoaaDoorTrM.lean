/- TroubleClass: the walk of the law. -/
import Derived.Test.YtnionifbhmfkoaaDoorTrL
namespace Go.Proofs.YtnionifbhmfkoaaDoor
open Go.RowKit Go.Extern.Stop Go.Stop Go.Extern
set_option maxRecDepth 100000

theorem Row.len {w : World} {v : Value} {xs : List Value} (h : Row w v xs) : ∃ ao cap, v = .slice ao xs.length cap := by
  rcases h with ⟨ao, cap, rfl, rfl⟩ | ⟨b, off, cap, _, rfl, _⟩
  · exact ⟨_, _, rfl⟩
  · exact ⟨_, _, rfl⟩
theorem textB_nil (c : Int) : textB c [] = wordB c := rfl

set_option maxHeartbeats 1000000 in
/-- Show of a class alone: no place. -/
theorem show_class (c : Int) (v : Value) (w : World) (hc : (c == 0) = false) (hg : Laid w) :
    Calls Tryd.prog 26 #[.iface 38 (.int .i64 c), v] w fun e w' => e = .returned (.string (wordB c ++ ⟨#[10]⟩)) ∧ Below w.heap.size w w' := by
  have HG := Lib.hid hg
  have hwl := wordB_len c
  clear hg
  go_enter Tryd.func26, Tryd.ntmps26
  go_wp2_with fail
  refine (none_class _ _).mono ?_
  rintro e w1 ⟨rfl, rfl⟩
  go_wp2_with fail
  refine (Of_calls c 0 0 _ w hc HG.out rfl).mono ?_
  rintro e w1 ⟨rfl, hB⟩
  have HB1 := Lib.hid hB
  clear hB
  go_wp2_with fail
  refine (word_calls c _).mono ?_
  rintro e w2 ⟨rfl, rfl⟩
  go_wp2_with fail
  refine (At_class c w1 (HG.out.below HB1.out)).mono ?_
  rintro e w2 ⟨rfl, hB⟩
  have HB2 := Lib.hid (bthen HB1.out hB)
  clear hB
  go_wp2
  go_ret
  exact ⟨rfl, HB2.out⟩

set_option maxHeartbeats 4000000 in
theorem class_calls (w : World) (c : Int) (v : Value) (ts : List Value) (hr : Row w v ts) (hl : ts.length ≤ maxLen) (hg : Laid w) :
    Calls Tryd.prog 6 #[.int .i64 c, v] w fun e w' => e = .returned (.bool true) ∧ Below w.heap.size w w' := by
  have HG := Lib.hid hg
  obtain ⟨ao, cap, rfl⟩ := hr.len
  unfold maxLen at hl
  clear hg hr
  have hwl := wordB_len c
  by_cases hs : (c == 0) = true ∨ 600 < ts.length
  · have HA := Lib.hid (awake_calls w HG.out)
    cases hc : (c == 0)
    · have h6 : 600 < ts.length := by rcases hs with h | h; (rw [hc] at h; cases h); exact h
      clear hs
      go_enter Tryd.func6, Tryd.ntmps6
      go_wp2_with fail
      refine (HA.out).mono ?_
      rintro e w1 ⟨rfl, hB⟩
      have HB1 := Lib.hid hB
      clear hB
      go_wp2
      go_ret
      exact ⟨rfl, HB1.out⟩
    · clear hs
      go_enter Tryd.func6, Tryd.ntmps6
      go_wp2_with fail
      refine (HA.out).mono ?_
      rintro e w1 ⟨rfl, hB⟩
      have HB1 := Lib.hid hB
      clear hB
      go_wp2
      go_ret
      exact ⟨rfl, HB1.out⟩
  · have hc : (c == 0) = false := by cases h : (c == 0) <;> simp_all
    have h6 : ¬ 600 < ts.length := fun h => hs (.inr h)
    clear hs
    go_enter Tryd.func6, Tryd.ntmps6
    go_wp2_with fail
    refine (Of_calls c 0 0 _ w hc HG.out rfl).mono ?_
    rintro e w1 ⟨rfl, hB⟩
    have HB1 := Lib.hid hB
    clear hB
    go_wp2_with fail
    refine (At_class c w1 (HG.out.below HB1.out)).mono ?_
    rintro e w2 ⟨rfl, hB⟩
    have HB2 := Lib.hid (bthen HB1.out hB)
    clear hB
    go_wp2_with fail
    refine (names_class c w2 hc).mono ?_
    rintro e w3 ⟨v2, rfl, hs, hB⟩
    have HB3 := Lib.hid (bthen HB2.out hB)
    obtain ⟨ao2, cap2, rfl⟩ := strs_len hs
    clear hB hs
    go_wp2_with fail
    refine (text_calls c 0 [] _ w3 hc (HG.out.below HB3.out) rfl ⟨0, Nat.zero_le _, rfl⟩).mono ?_
    rintro e w4 ⟨rfl, hB⟩
    rw [textB_nil]
    have HB4 := Lib.hid (bthen HB3.out hB)
    clear hB
    go_wp2_with fail
    refine (refword_calls c _).mono ?_
    rintro e w5 ⟨rfl, hB⟩
    have HB5 := Lib.hid (bthen HB4.out hB)
    clear hB
    go_wp2_with fail
    refine (show_class c _ w5 hc (HG.out.below HB5.out)).mono ?_
    rintro e w6 ⟨rfl, hB⟩
    have HB6 := Lib.hid (bthen HB5.out hB)
    clear hB
    go_wp2_with fail
    refine (refword_calls c _).mono ?_
    rintro e w7 ⟨rfl, hB⟩
    have HB7 := Lib.hid (bthen HB6.out hB)
    clear hB
    go_wp2_with fail
    refine (awake_calls w7 (HG.out.below HB7.out)).mono ?_
    rintro e w8 ⟨rfl, hB⟩
    have HB8 := Lib.hid (bthen HB7.out hB)
    clear hB
    go_wp2
    go_ret
    exact ⟨rfl, HB8.out⟩
theorem class_frame (w : World) (c : Int) (_ : (Lit.int .i64 c).wf = true) (v : Value) (zs : List Int) (hr : RowC w v (zs.map (Value.int .i32))) (_ : ∀ z ∈ zs, (Lit.int .i32 z).wf = true) (hl : zs.length ≤ maxLen) (hg : Laid w) :
    Calls Tryd.prog 6 #[.int .i64 c, v] w fun e w' => e = .returned (.bool true) ∧ Below w.heap.size w w' :=
  class_calls w c v _ hr.1 (by simpa using hl) hg
end Go.Proofs.YtnionifbhmfkoaaDoor

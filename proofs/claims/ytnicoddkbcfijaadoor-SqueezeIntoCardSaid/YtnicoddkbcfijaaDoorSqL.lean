/- SqueezeInto, walked: all ways. -/
import Derived.Test.YtnicoddkbcfijaaDoorSqJ
import Derived.Test.YtnicoddkbcfijaaDoorSqK
namespace Go.Proofs.YtnicoddkbcfijaaDoor
open Go.RowKit Fl
set_option linter.unusedVariables false
set_option maxRecDepth 8000

set_option maxHeartbeats 8000000 in
theorem sqInto_bad (w : World) (v1 : Value) (l : List Nat) (kind : Int) (fro : Int) (HS1 : Hid (Slc w (fun _ => True) v1 l.length (f64s l))) (HT : Hid (TabAt w)) (hl1 : l.length ≤ 500) (HW : Hid (∀ x ∈ l, x < 18446744073709551616)) (HF : Hid (∃ x ∈ l, ¬ Fnt x)) :
    Calls Tryd.prog 4 #[v1, .int .i64 kind, .int .i64 fro] w fun e w' => e = .returned (.bool true) ∧ Below w.heap.size w w' := by
  have HL := Lib.hid (show l.length ≤ 2000000 by omega)
  have HB := Lib.hid (Below.refl w.heap.size w)
  obtain ⟨ao1, cap1, rfl, _⟩ := HS1.out.opened
  go_enter Tryd.func4, Tryd.ntmps4
  go_wp2_with fail
  refine (rtidys_no _ l _ HS1.out HL.out HW.out HF.out).mono ?_
  rintro e W1 ⟨rfl, hB⟩
  replace HT := Lib.hid (fun j hj => keep_below hB _ _ (HT.out j hj))
  replace HS1 := Lib.hid (HS1.out.below hB)
  replace HB := Lib.hid (HB.out.trans (hB.mono HB.out.size))
  clear hB
  go_wp2_with fail
  refine (awake5_calls _ HT.out).mono ?_
  rintro e W2 ⟨rfl, hB⟩
  replace HT := Lib.hid (fun j hj => keep_below hB _ _ (HT.out j hj))
  replace HS1 := Lib.hid (HS1.out.below hB)
  replace HB := Lib.hid (HB.out.trans (hB.mono HB.out.size))
  clear hB
  go_wp2
  go_ret
  exact ⟨rfl, HB.out⟩

theorem squeezeInto_calls (w : World) (v1 : Value) (l : List Nat) (hr1 : RowC w v1 (l.map (Value.float .f64))) (hz1 : ∀ z ∈ l, (Lit.float .f64 z).wf = true) (hl1 : l.length ≤ maxLen) (kind : Int) (hk : (Lit.int .i64 kind).wf = true) (fro : Int) (hfr : (Lit.int .i64 fro).wf = true) (hT : TabAt w) :
    Calls Tryd.prog 4 #[v1, .int .i64 kind, .int .i64 fro] w fun e w' => e = .returned (.bool true) ∧ Below w.heap.size w w' := by
  have HT := Lib.hid hT
  have HS1 := Lib.hid (show Slc w (fun _ => True) v1 l.length (f64s l) by have := hr1.slc; rw [List.length_map] at this; exact this)
  have HWF := Lib.hid (fun x (h : x ∈ l) => wf_f64 (hz1 x h))
  unfold maxLen at hl1
  clear hr1 hz1 hT hk hfr
  by_cases hbig : 500 < l.length
  · obtain ⟨ao1, cap1, rfl, _⟩ := HS1.out.opened
    go_enter Tryd.func4, Tryd.ntmps4
    go_wp2_with fail
    refine (awake5_calls w HT.out).mono ?_
    rintro e w1 ⟨rfl, hB⟩
    have HB := Lib.hid hB
    clear hB
    go_wp2
    go_ret
    exact ⟨rfl, HB.out⟩
  by_cases hF : ∀ x ∈ l, Fnt x
  · have HF := Lib.hid hF
    cases h1 : (decide ((leastW (l.map ze) : Int) ≤ fro) && decide (fro ≤ 4)) <;> cases h2 : (decide ((leastW (l.map ze) : Int) ≤ kind) && decide (kind ≤ 4))
    · exact sqInto_nn w v1 l kind fro HS1 HT (by omega) HF h1 h2
    · exact sqInto_ny w v1 l kind fro HS1 HT (by omega) HF h1 h2
    · exact sqInto_yn w v1 l kind fro HS1 HT (by omega) HF h1 h2
    · exact sqInto_yy w v1 l kind fro HS1 HT (by omega) HF h1 h2
  · have hN : ∃ x ∈ l, ¬ Fnt x := by
      apply Classical.byContradiction
      intro hc
      exact hF fun x hx => Classical.byContradiction fun hn => hc ⟨x, hx, hn⟩
    exact sqInto_bad w v1 l kind fro HS1 HT (by omega) HWF (Lib.hid hN)
end Go.Proofs.YtnicoddkbcfijaaDoor

/- SqueezeCommon, walked. -/
import Derived.Test.YtnicoddkbcfijaaDoorSqF
namespace Go.Proofs.YtnicoddkbcfijaaDoor
open Go.RowKit Fl
set_option linter.unusedVariables false
set_option maxRecDepth 8000

theorem common_0 (a b : Int) (w : World) (HT : Hid (TabAt w)) (he : a = b) (h1 : ¬ 1 ≤ a) : Calls Tryd.prog 6 #[.int .i64 a, .int .i64 b] w fun e w' => e = .returned (.bool true) ∧ Below w.heap.size w w' := by
  have HB := Lib.hid (Below.refl w.heap.size w)
  have HE1 := Lib.hid (show commonK a b = a by unfold commonK; split <;> (try split) <;> omega)
  have HE2 := Lib.hid (show commonK b a = a by unfold commonK; split <;> (try split) <;> omega)
  subst he
  go_enter Tryd.func6, Tryd.ntmps6
  go_wp2_with fail
  refine (Calls.grow_same (common_calls _ _ _)).mono ?_
  rintro e W1 ⟨rfl, hB⟩
  replace HT := Lib.hid (fun j hj => keep_below hB _ _ (HT.out j hj))
  replace HB := Lib.hid (HB.out.trans (hB.mono HB.out.size))
  rw [HE1.out]
  clear hB
  go_wp2_with fail
  refine (Calls.grow_same (common_calls _ _ _)).mono ?_
  rintro e W2 ⟨rfl, hB⟩
  replace HT := Lib.hid (fun j hj => keep_below hB _ _ (HT.out j hj))
  replace HB := Lib.hid (HB.out.trans (hB.mono HB.out.size))
  rw [HE2.out]
  clear hB
  go_wp2_with fail
  refine (awake5_calls _ HT.out).mono ?_
  rintro e W3 ⟨rfl, hB⟩
  replace HT := Lib.hid (fun j hj => keep_below hB _ _ (HT.out j hj))
  replace HB := Lib.hid (HB.out.trans (hB.mono HB.out.size))
  clear hB
  go_wp2
  go_ret
  exact ⟨rfl, HB.out⟩
theorem common_1 (a b : Int) (w : World) (HT : Hid (TabAt w)) (he : a = b) (h1 : 1 ≤ a) (h2 : ¬ a ≤ 4) : Calls Tryd.prog 6 #[.int .i64 a, .int .i64 b] w fun e w' => e = .returned (.bool true) ∧ Below w.heap.size w w' := by
  have HB := Lib.hid (Below.refl w.heap.size w)
  have HE1 := Lib.hid (show commonK a b = a by unfold commonK; split <;> (try split) <;> omega)
  have HE2 := Lib.hid (show commonK b a = a by unfold commonK; split <;> (try split) <;> omega)
  subst he
  go_enter Tryd.func6, Tryd.ntmps6
  go_wp2_with fail
  refine (Calls.grow_same (common_calls _ _ _)).mono ?_
  rintro e W1 ⟨rfl, hB⟩
  replace HT := Lib.hid (fun j hj => keep_below hB _ _ (HT.out j hj))
  replace HB := Lib.hid (HB.out.trans (hB.mono HB.out.size))
  rw [HE1.out]
  clear hB
  go_wp2_with fail
  refine (Calls.grow_same (common_calls _ _ _)).mono ?_
  rintro e W2 ⟨rfl, hB⟩
  replace HT := Lib.hid (fun j hj => keep_below hB _ _ (HT.out j hj))
  replace HB := Lib.hid (HB.out.trans (hB.mono HB.out.size))
  rw [HE2.out]
  clear hB
  go_wp2_with fail
  refine (awake5_calls _ HT.out).mono ?_
  rintro e W3 ⟨rfl, hB⟩
  replace HT := Lib.hid (fun j hj => keep_below hB _ _ (HT.out j hj))
  replace HB := Lib.hid (HB.out.trans (hB.mono HB.out.size))
  clear hB
  go_wp2
  go_ret
  exact ⟨rfl, HB.out⟩
theorem common_2 (a b : Int) (w : World) (HT : Hid (TabAt w)) (he : a = b) (h1 : 1 ≤ a) (h2 : a ≤ 4) : Calls Tryd.prog 6 #[.int .i64 a, .int .i64 b] w fun e w' => e = .returned (.bool true) ∧ Below w.heap.size w w' := by
  have HB := Lib.hid (Below.refl w.heap.size w)
  have HE1 := Lib.hid (show commonK a b = a by unfold commonK; split <;> (try split) <;> omega)
  have HE2 := Lib.hid (show commonK b a = a by unfold commonK; split <;> (try split) <;> omega)
  subst he
  go_enter Tryd.func6, Tryd.ntmps6
  go_wp2_with fail
  refine (Calls.grow_same (common_calls _ _ _)).mono ?_
  rintro e W1 ⟨rfl, hB⟩
  replace HT := Lib.hid (fun j hj => keep_below hB _ _ (HT.out j hj))
  replace HB := Lib.hid (HB.out.trans (hB.mono HB.out.size))
  rw [HE1.out]
  clear hB
  go_wp2_with fail
  refine (Calls.grow_same (common_calls _ _ _)).mono ?_
  rintro e W2 ⟨rfl, hB⟩
  replace HT := Lib.hid (fun j hj => keep_below hB _ _ (HT.out j hj))
  replace HB := Lib.hid (HB.out.trans (hB.mono HB.out.size))
  rw [HE2.out]
  clear hB
  go_wp2_with fail
  refine (awake5_calls _ HT.out).mono ?_
  rintro e W3 ⟨rfl, hB⟩
  replace HT := Lib.hid (fun j hj => keep_below hB _ _ (HT.out j hj))
  replace HB := Lib.hid (HB.out.trans (hB.mono HB.out.size))
  clear hB
  go_wp2
  go_ret
  exact ⟨rfl, HB.out⟩
theorem common_3 (a b : Int) (w : World) (HT : Hid (TabAt w)) (he : ¬ a = b) (h1 : ¬ 1 ≤ a) : Calls Tryd.prog 6 #[.int .i64 a, .int .i64 b] w fun e w' => e = .returned (.bool true) ∧ Below w.heap.size w w' := by
  have HB := Lib.hid (Below.refl w.heap.size w)
  have HE1 := Lib.hid (show commonK a b = 0 by unfold commonK; split <;> (try split) <;> omega)
  have HE2 := Lib.hid (show commonK b a = 0 by unfold commonK; split <;> (try split) <;> omega)
  have hne : (a == b) = false := by simpa using he
  clear he
  go_enter Tryd.func6, Tryd.ntmps6
  go_wp2_with fail
  refine (Calls.grow_same (common_calls _ _ _)).mono ?_
  rintro e W1 ⟨rfl, hB⟩
  replace HT := Lib.hid (fun j hj => keep_below hB _ _ (HT.out j hj))
  replace HB := Lib.hid (HB.out.trans (hB.mono HB.out.size))
  rw [HE1.out]
  clear hB
  go_wp2_with fail
  refine (Calls.grow_same (common_calls _ _ _)).mono ?_
  rintro e W2 ⟨rfl, hB⟩
  replace HT := Lib.hid (fun j hj => keep_below hB _ _ (HT.out j hj))
  replace HB := Lib.hid (HB.out.trans (hB.mono HB.out.size))
  rw [HE2.out]
  clear hB
  go_wp2_with fail
  refine (awake5_calls _ HT.out).mono ?_
  rintro e W3 ⟨rfl, hB⟩
  replace HT := Lib.hid (fun j hj => keep_below hB _ _ (HT.out j hj))
  replace HB := Lib.hid (HB.out.trans (hB.mono HB.out.size))
  clear hB
  go_wp2
  go_ret
  exact ⟨rfl, HB.out⟩
theorem common_4 (a b : Int) (w : World) (HT : Hid (TabAt w)) (he : ¬ a = b) (h1 : 1 ≤ a) (h2 : ¬ a ≤ 4) : Calls Tryd.prog 6 #[.int .i64 a, .int .i64 b] w fun e w' => e = .returned (.bool true) ∧ Below w.heap.size w w' := by
  have HB := Lib.hid (Below.refl w.heap.size w)
  have HE1 := Lib.hid (show commonK a b = 0 by unfold commonK; split <;> (try split) <;> omega)
  have HE2 := Lib.hid (show commonK b a = 0 by unfold commonK; split <;> (try split) <;> omega)
  have hne : (a == b) = false := by simpa using he
  clear he
  go_enter Tryd.func6, Tryd.ntmps6
  go_wp2_with fail
  refine (Calls.grow_same (common_calls _ _ _)).mono ?_
  rintro e W1 ⟨rfl, hB⟩
  replace HT := Lib.hid (fun j hj => keep_below hB _ _ (HT.out j hj))
  replace HB := Lib.hid (HB.out.trans (hB.mono HB.out.size))
  rw [HE1.out]
  clear hB
  go_wp2_with fail
  refine (Calls.grow_same (common_calls _ _ _)).mono ?_
  rintro e W2 ⟨rfl, hB⟩
  replace HT := Lib.hid (fun j hj => keep_below hB _ _ (HT.out j hj))
  replace HB := Lib.hid (HB.out.trans (hB.mono HB.out.size))
  rw [HE2.out]
  clear hB
  go_wp2_with fail
  refine (awake5_calls _ HT.out).mono ?_
  rintro e W3 ⟨rfl, hB⟩
  replace HT := Lib.hid (fun j hj => keep_below hB _ _ (HT.out j hj))
  replace HB := Lib.hid (HB.out.trans (hB.mono HB.out.size))
  clear hB
  go_wp2
  go_ret
  exact ⟨rfl, HB.out⟩
theorem common_5 (a b : Int) (w : World) (HT : Hid (TabAt w)) (he : ¬ a = b) (h1 : 1 ≤ a) (h2 : a ≤ 4) (h3 : ¬ 1 ≤ b) : Calls Tryd.prog 6 #[.int .i64 a, .int .i64 b] w fun e w' => e = .returned (.bool true) ∧ Below w.heap.size w w' := by
  have HB := Lib.hid (Below.refl w.heap.size w)
  have HE1 := Lib.hid (show commonK a b = 0 by unfold commonK; split <;> (try split) <;> omega)
  have HE2 := Lib.hid (show commonK b a = 0 by unfold commonK; split <;> (try split) <;> omega)
  have hne : (a == b) = false := by simpa using he
  clear he
  go_enter Tryd.func6, Tryd.ntmps6
  go_wp2_with fail
  refine (Calls.grow_same (common_calls _ _ _)).mono ?_
  rintro e W1 ⟨rfl, hB⟩
  replace HT := Lib.hid (fun j hj => keep_below hB _ _ (HT.out j hj))
  replace HB := Lib.hid (HB.out.trans (hB.mono HB.out.size))
  rw [HE1.out]
  clear hB
  go_wp2_with fail
  refine (Calls.grow_same (common_calls _ _ _)).mono ?_
  rintro e W2 ⟨rfl, hB⟩
  replace HT := Lib.hid (fun j hj => keep_below hB _ _ (HT.out j hj))
  replace HB := Lib.hid (HB.out.trans (hB.mono HB.out.size))
  rw [HE2.out]
  clear hB
  go_wp2_with fail
  refine (awake5_calls _ HT.out).mono ?_
  rintro e W3 ⟨rfl, hB⟩
  replace HT := Lib.hid (fun j hj => keep_below hB _ _ (HT.out j hj))
  replace HB := Lib.hid (HB.out.trans (hB.mono HB.out.size))
  clear hB
  go_wp2
  go_ret
  exact ⟨rfl, HB.out⟩
theorem common_6 (a b : Int) (w : World) (HT : Hid (TabAt w)) (he : ¬ a = b) (h1 : 1 ≤ a) (h2 : a ≤ 4) (h3 : 1 ≤ b) (h4 : ¬ b ≤ 4) : Calls Tryd.prog 6 #[.int .i64 a, .int .i64 b] w fun e w' => e = .returned (.bool true) ∧ Below w.heap.size w w' := by
  have HB := Lib.hid (Below.refl w.heap.size w)
  have HE1 := Lib.hid (show commonK a b = 0 by unfold commonK; split <;> (try split) <;> omega)
  have HE2 := Lib.hid (show commonK b a = 0 by unfold commonK; split <;> (try split) <;> omega)
  have hne : (a == b) = false := by simpa using he
  clear he
  go_enter Tryd.func6, Tryd.ntmps6
  go_wp2_with fail
  refine (Calls.grow_same (common_calls _ _ _)).mono ?_
  rintro e W1 ⟨rfl, hB⟩
  replace HT := Lib.hid (fun j hj => keep_below hB _ _ (HT.out j hj))
  replace HB := Lib.hid (HB.out.trans (hB.mono HB.out.size))
  rw [HE1.out]
  clear hB
  go_wp2_with fail
  refine (Calls.grow_same (common_calls _ _ _)).mono ?_
  rintro e W2 ⟨rfl, hB⟩
  replace HT := Lib.hid (fun j hj => keep_below hB _ _ (HT.out j hj))
  replace HB := Lib.hid (HB.out.trans (hB.mono HB.out.size))
  rw [HE2.out]
  clear hB
  go_wp2_with fail
  refine (awake5_calls _ HT.out).mono ?_
  rintro e W3 ⟨rfl, hB⟩
  replace HT := Lib.hid (fun j hj => keep_below hB _ _ (HT.out j hj))
  replace HB := Lib.hid (HB.out.trans (hB.mono HB.out.size))
  clear hB
  go_wp2
  go_ret
  exact ⟨rfl, HB.out⟩
theorem common_7 (a b : Int) (w : World) (HT : Hid (TabAt w)) (he : ¬ a = b) (h1 : 1 ≤ a) (h2 : a ≤ 4) (h3 : 1 ≤ b) (h4 : b ≤ 4) (h5 : a < b) : Calls Tryd.prog 6 #[.int .i64 a, .int .i64 b] w fun e w' => e = .returned (.bool true) ∧ Below w.heap.size w w' := by
  have HB := Lib.hid (Below.refl w.heap.size w)
  have HE1 := Lib.hid (show commonK a b = b by unfold commonK; split <;> (try split) <;> omega)
  have HE2 := Lib.hid (show commonK b a = b by unfold commonK; split <;> (try split) <;> omega)
  have hne : (a == b) = false := by simpa using he
  clear he
  go_enter Tryd.func6, Tryd.ntmps6
  go_wp2_with fail
  refine (Calls.grow_same (common_calls _ _ _)).mono ?_
  rintro e W1 ⟨rfl, hB⟩
  replace HT := Lib.hid (fun j hj => keep_below hB _ _ (HT.out j hj))
  replace HB := Lib.hid (HB.out.trans (hB.mono HB.out.size))
  rw [HE1.out]
  clear hB
  go_wp2_with fail
  refine (Calls.grow_same (common_calls _ _ _)).mono ?_
  rintro e W2 ⟨rfl, hB⟩
  replace HT := Lib.hid (fun j hj => keep_below hB _ _ (HT.out j hj))
  replace HB := Lib.hid (HB.out.trans (hB.mono HB.out.size))
  rw [HE2.out]
  clear hB
  go_wp2_with fail
  refine (awake5_calls _ HT.out).mono ?_
  rintro e W3 ⟨rfl, hB⟩
  replace HT := Lib.hid (fun j hj => keep_below hB _ _ (HT.out j hj))
  replace HB := Lib.hid (HB.out.trans (hB.mono HB.out.size))
  clear hB
  go_wp2
  go_ret
  exact ⟨rfl, HB.out⟩
theorem common_8 (a b : Int) (w : World) (HT : Hid (TabAt w)) (he : ¬ a = b) (h1 : 1 ≤ a) (h2 : a ≤ 4) (h3 : 1 ≤ b) (h4 : b ≤ 4) (h5 : ¬ a < b) : Calls Tryd.prog 6 #[.int .i64 a, .int .i64 b] w fun e w' => e = .returned (.bool true) ∧ Below w.heap.size w w' := by
  have HB := Lib.hid (Below.refl w.heap.size w)
  have HE1 := Lib.hid (show commonK a b = a by unfold commonK; split <;> (try split) <;> omega)
  have HE2 := Lib.hid (show commonK b a = a by unfold commonK; split <;> (try split) <;> omega)
  have hne : (a == b) = false := by simpa using he
  clear he
  go_enter Tryd.func6, Tryd.ntmps6
  go_wp2_with fail
  refine (Calls.grow_same (common_calls _ _ _)).mono ?_
  rintro e W1 ⟨rfl, hB⟩
  replace HT := Lib.hid (fun j hj => keep_below hB _ _ (HT.out j hj))
  replace HB := Lib.hid (HB.out.trans (hB.mono HB.out.size))
  rw [HE1.out]
  clear hB
  go_wp2_with fail
  refine (Calls.grow_same (common_calls _ _ _)).mono ?_
  rintro e W2 ⟨rfl, hB⟩
  replace HT := Lib.hid (fun j hj => keep_below hB _ _ (HT.out j hj))
  replace HB := Lib.hid (HB.out.trans (hB.mono HB.out.size))
  rw [HE2.out]
  clear hB
  go_wp2_with fail
  refine (awake5_calls _ HT.out).mono ?_
  rintro e W3 ⟨rfl, hB⟩
  replace HT := Lib.hid (fun j hj => keep_below hB _ _ (HT.out j hj))
  replace HB := Lib.hid (HB.out.trans (hB.mono HB.out.size))
  clear hB
  go_wp2
  go_ret
  exact ⟨rfl, HB.out⟩
theorem squeezeCommon_calls (w : World) (a : Int) (ha : (Lit.int .i64 a).wf = true) (b : Int) (hb : (Lit.int .i64 b).wf = true) (hT : TabAt w) : Calls Tryd.prog 6 #[.int .i64 a, .int .i64 b] w fun e w' => e = .returned (.bool true) ∧ Below w.heap.size w w' := by
  have HT := Lib.hid hT
  by_cases he : a = b
  · by_cases h1 : 1 ≤ a
    · by_cases h2 : a ≤ 4
      · exact common_2 a b w HT he h1 h2
      · exact common_1 a b w HT he h1 h2
    · exact common_0 a b w HT he h1
  · by_cases h1 : 1 ≤ a
    · by_cases h2 : a ≤ 4
      · by_cases h3 : 1 ≤ b
        · by_cases h4 : b ≤ 4
          · by_cases h5 : a < b
            · exact common_7 a b w HT he h1 h2 h3 h4 h5
            · exact common_8 a b w HT he h1 h2 h3 h4 h5
          · exact common_6 a b w HT he h1 h2 h3 h4
        · exact common_5 a b w HT he h1 h2 h3
      · exact common_4 a b w HT he h1 h2
    · exact common_3 a b w HT he h1
end Go.Proofs.YtnicoddkbcfijaaDoor

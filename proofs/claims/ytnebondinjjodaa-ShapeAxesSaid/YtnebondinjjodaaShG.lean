/- Layer 6: the law's awake; ShapeProducts. -/
import Derived.Test.YtnebondinjjodaaShF
import Derived.Test.YtnebondinjjodaaBvK
namespace Go.Proofs.Ytnebondinjjodaa
open Go.RowKit
set_option linter.unusedVariables false
set_option maxRecDepth 8000

theorem below_new (w : World) (o : Obj) : Below w.heap.size w (w.alloc o) := below_newA w o
theorem Calls.grow_same6 {P : Program} {f : FuncId} {args : Array Value} {w : World} {v : Value} (h : Calls P f args w fun e w' => e = .returned v ∧ w = w') : Calls P f args w fun e w' => e = .returned v ∧ Below w.heap.size w w' :=
  h.mono fun _ _ ⟨h1, h2⟩ => ⟨h1, by rw [← h2]; exact Below.refl _ _⟩
set_option maxHeartbeats 4000000 in
theorem awake6_calls (w : World) : Calls Try.prog 7 #[] w fun e w' => e = .returned (.bool true) ∧ Below w.heap.size w w' := by
  have HB := Lib.hid (Below.refl w.heap.size w)
  obtain ⟨W1, hL0⟩ : ∃ X, (w.alloc (.cells #[.int .i64 2, .int .i64 3] 3)) = X := ⟨_, rfl⟩
  have hB : Below w.heap.size w W1 := by rw [← hL0]; exact below_new _ _
  have HS := Lib.hid (show Slc W1 (fun _ => True) (.slice (some ⟨w.heap.size, 0, none⟩) 2 2) 2 (ints [2, 3]) by rw [← hL0]; exact (Slc.owned (World.ownsRow_lit (base := w.heap.size) (e := 3) (size := 1) w #[.int .i64 2, .int .i64 3] 2 (Nat.le_refl _) (by unfold maxLen; omega) rfl)).any)
  replace HB := Lib.hid (HB.out.trans (hB.mono HB.out.size))
  clear hB
  go_enter Try.func7, Try.ntmps7
  go_wp2_with fail
  clear hL0
  refine (sproduct_calls _ [2, 3] 100 _ HS.out (by decide)).mono ?_
  rintro e W2 ⟨rfl, hB⟩
  replace HS := Lib.hid (HS.out.below hB)
  replace HB := Lib.hid (HB.out.trans (hB.mono HB.out.size))
  rw [show prodR [2, 3] 100 = (6, 0) by decide]
  clear hB
  obtain ⟨W3, hL1⟩ : ∃ X, (W2.alloc (.cells #[.int .i64 1, .int .i64 2] 3)) = X := ⟨_, rfl⟩
  have hB : Below W2.heap.size W2 W3 := by rw [← hL1]; exact below_new _ _
  have HT := Lib.hid (show Slc W3 (fun _ => True) (.slice (some ⟨W2.heap.size, 0, none⟩) 2 2) 2 (ints [1, 2]) by rw [← hL1]; exact (Slc.owned (World.ownsRow_lit (base := W2.heap.size) (e := 3) (size := 1) W2 #[.int .i64 1, .int .i64 2] 2 (Nat.le_refl _) (by unfold maxLen; omega) rfl)).any)
  replace HS := Lib.hid (HS.out.below hB)
  replace HB := Lib.hid (HB.out.trans (hB.mono HB.out.size))
  clear hB
  go_wp2_with fail
  clear hL1
  refine (sat_calls _ _ [2, 3] [1, 2] _ HS.out (by decide) HT.out (by decide)).mono ?_
  rintro e W4 ⟨rfl, hB⟩
  replace HS := Lib.hid (HS.out.below hB)
  replace HT := Lib.hid (HT.out.below hB)
  replace HB := Lib.hid (HB.out.trans (hB.mono HB.out.size))
  rw [show atG [2, 3] [1, 2] = 5 by decide, show decide (0 ≤ placeR [2, 3] [1, 2]) = true by decide]
  clear hB
  go_wp2_with fail
  refine (sindex_calls _ [2, 3] 4 _ HS.out (by decide)).mono ?_
  rintro e W5 ⟨z, rfl, hs, hB⟩
  replace HS := Lib.hid (HS.out.below hB)
  replace HT := Lib.hid (HT.out.below hB)
  replace HB := Lib.hid (HB.out.trans (hB.mono HB.out.size))
  rw [show hasG [2, 3] 4 = true by decide]
  have HZ := Lib.hid (show Slc W5 _ z 2 (ints [1, 1]) from hs)
  clear hs
  clear hB
  obtain ⟨W6, hL2⟩ : ∃ X, (W5.alloc (.cells #[.int .i64 1, .int .i64 1] 3)) = X := ⟨_, rfl⟩
  have hB : Below W5.heap.size W5 W6 := by rw [← hL2]; exact below_new _ _
  have HU := Lib.hid (show Slc W6 (fun _ => True) (.slice (some ⟨W5.heap.size, 0, none⟩) 2 2) 2 (ints [1, 1]) by rw [← hL2]; exact (Slc.owned (World.ownsRow_lit (base := W5.heap.size) (e := 3) (size := 1) W5 #[.int .i64 1, .int .i64 1] 2 (Nat.le_refl _) (by unfold maxLen; omega) rfl)).any)
  replace HS := Lib.hid (HS.out.below hB)
  replace HT := Lib.hid (HT.out.below hB)
  replace HZ := Lib.hid (HZ.out.below hB)
  replace HB := Lib.hid (HB.out.trans (hB.mono HB.out.size))
  clear hB
  go_wp2_with fail
  clear hL2
  refine (ints_calls _ _ [1, 1] [1, 1] _ HZ.out.1.sl HU.out.1.sl (by unfold maxLen; decide)).mono ?_
  rintro e W7 ⟨rfl, hB⟩
  replace HS := Lib.hid (HS.out.below hB)
  replace HT := Lib.hid (HT.out.below hB)
  replace HZ := Lib.hid (HZ.out.below hB)
  replace HU := Lib.hid (HU.out.below hB)
  replace HB := Lib.hid (HB.out.trans (hB.mono HB.out.size))
  clear hB
  go_wp2_with fail
  refine (sstrides_calls _ [2, 3] _ HS.out (by decide)).mono ?_
  rintro e W8 ⟨y, rfl, hs, hB⟩
  replace HS := Lib.hid (HS.out.below hB)
  replace HT := Lib.hid (HT.out.below hB)
  replace HZ := Lib.hid (HZ.out.below hB)
  replace HU := Lib.hid (HU.out.below hB)
  replace HB := Lib.hid (HB.out.trans (hB.mono HB.out.size))
  have HY := Lib.hid (show Slc W8 _ y 2 (ints [3, 1]) from hs)
  clear hs
  clear hB
  obtain ⟨W9, hL3⟩ : ∃ X, (W8.alloc (.cells #[.int .i64 3, .int .i64 1] 3)) = X := ⟨_, rfl⟩
  have hB : Below W8.heap.size W8 W9 := by rw [← hL3]; exact below_new _ _
  have HV := Lib.hid (show Slc W9 (fun _ => True) (.slice (some ⟨W8.heap.size, 0, none⟩) 2 2) 2 (ints [3, 1]) by rw [← hL3]; exact (Slc.owned (World.ownsRow_lit (base := W8.heap.size) (e := 3) (size := 1) W8 #[.int .i64 3, .int .i64 1] 2 (Nat.le_refl _) (by unfold maxLen; omega) rfl)).any)
  replace HS := Lib.hid (HS.out.below hB)
  replace HT := Lib.hid (HT.out.below hB)
  replace HZ := Lib.hid (HZ.out.below hB)
  replace HU := Lib.hid (HU.out.below hB)
  replace HY := Lib.hid (HY.out.below hB)
  replace HB := Lib.hid (HB.out.trans (hB.mono HB.out.size))
  clear hB
  go_wp2_with fail
  clear hL3
  refine (ints_calls _ _ [3, 1] [3, 1] _ HY.out.1.sl HV.out.1.sl (by unfold maxLen; decide)).mono ?_
  rintro e W10 ⟨rfl, hB⟩
  replace HS := Lib.hid (HS.out.below hB)
  replace HT := Lib.hid (HT.out.below hB)
  replace HZ := Lib.hid (HZ.out.below hB)
  replace HU := Lib.hid (HU.out.below hB)
  replace HY := Lib.hid (HY.out.below hB)
  replace HV := Lib.hid (HV.out.below hB)
  replace HB := Lib.hid (HB.out.trans (hB.mono HB.out.size))
  clear hB
  go_wp2
  go_ret
  exact ⟨rfl, HB.out⟩

set_option maxHeartbeats 4000000 in
theorem shProducts_core (w : World) (v : Value) (s : List Int) (most : Int) (HS : Hid (Slc w (fun _ => True) v s.length (ints s))) (hl : s.length ≤ 60) :
    Calls Try.prog 3 #[v, .int .i64 most] w fun e w' => e = .returned (.bool true) ∧ Below w.heap.size w w' := by
  have HB := Lib.hid (Below.refl w.heap.size w)
  have HL := Lib.hid (show s.length ≤ 1000 by omega)
  have HL2 := Lib.hid (show s.length ≤ 9223372036854775807 by omega)
  obtain ⟨ao, cap, rfl, _⟩ := HS.out.opened
  obtain ⟨n, f, hp⟩ : ∃ n f, prodR s most = (n, f) := ⟨_, _, rfl⟩
  have HP := Lib.hid hp
  obtain ⟨g, hg⟩ : ∃ g, goodS s = g := ⟨_, rfl⟩
  have HG := Lib.hid hg
  clear hp hg
  go_enter Try.func3, Try.ntmps3
  go_wp2_with fail
  refine (sproduct_calls _ s most _ HS.out HL.out).mono ?_
  rintro e W1 ⟨rfl, hB⟩
  replace HS := Lib.hid (HS.out.below hB)
  replace HB := Lib.hid (HB.out.trans (hB.mono HB.out.size))
  rw [HP.out]
  clear hB
  go_wp2_with fail
  refine (Calls.grow_same6 (rproduct_calls _ s most _ HS.out HL2.out)).mono ?_
  rintro e W2 ⟨rfl, hB⟩
  replace HS := Lib.hid (HS.out.below hB)
  replace HB := Lib.hid (HB.out.trans (hB.mono HB.out.size))
  rw [HP.out]
  clear hB
  
  go_wp2_with fail
  refine (sgood_calls _ s _ HS.out HL.out).mono ?_
  rintro e W3 ⟨rfl, hB⟩
  replace HS := Lib.hid (HS.out.below hB)
  replace HB := Lib.hid (HB.out.trans (hB.mono HB.out.size))
  rw [HG.out]
  clear hB
  go_wp2_with fail
  refine (Calls.grow_same6 (rgood_calls _ s _ HS.out HL2.out)).mono ?_
  rintro e W4 ⟨rfl, hB⟩
  replace HS := Lib.hid (HS.out.below hB)
  replace HB := Lib.hid (HB.out.trans (hB.mono HB.out.size))
  rw [HG.out]
  clear hB
  go_wp2_with fail
  refine (awake6_calls _).mono ?_
  rintro e W5 ⟨rfl, hB⟩
  replace HS := Lib.hid (HS.out.below hB)
  replace HB := Lib.hid (HB.out.trans (hB.mono HB.out.size))
  clear hB
  go_wp2
  go_ret
  exact ⟨rfl, HB.out⟩
end Go.Proofs.Ytnebondinjjodaa

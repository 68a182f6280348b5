/- Merged: HaH, HaA, HaP. -/
import Derived.Test.YtbdhibcbpgjbmaaGreatDoorMgHa1
import Derived.Test.YtbdhibcbpgjbmaaGreatDoorMgPi1
import Derived.Test.YtbdhibcbpgjbmaaGreatDoorMgVe1
import Derived.Test.YtbdhibcbpgjbmaaGreatDoorMgFl1
import Derived.Test.YtbdhibcbpgjbmaaGreatDoorMgAr1
import Derived.Test.YtbdhibcbpgjbmaaGreatDoorMgVa1
import Derived.Test.YtbdhibcbpgjbmaaGreatDoorMgRx1
import Derived.Test.YtbdhibcbpgjbmaaGreatDoorMgOr1
import Derived.Test.YtbdhibcbpgjbmaaGreatDoorMgVa2
import Derived.Test.YtbdhibcbpgjbmaaGreatDoorMgBv1
/- Layer 19's laws: awake. -/
namespace Go.Proofs.YtbdhibcbpgjbmaaGreatDoor
set_option maxRecDepth 100000
open Go.RowKit Fl
set_option linter.unusedVariables false

def Yes19 (w : World) (e : Ending) (w' : World) : Prop := e = .returned (.bool true) ∧ Below w.heap.size w w'
theorem aw19_num : ∀ x ∈ ([4617315517961601024, 4618441417868443648, 4617315517961601024] : List Nat), Num x := by
  intro x hx
  simp only [List.mem_cons, List.not_mem_nil, or_false] at hx
  rcases hx with rfl | rfl | rfl <;> exact ⟨⟨by decide, by decide⟩, by decide +kernel⟩
theorem aw19_num2 : ∀ x ∈ ([4617315517961601024, 4619567317775286272] : List Nat), Num x := by
  intro x hx
  simp only [List.mem_cons, List.not_mem_nil, or_false] at hx
  rcases hx with rfl | rfl <;> exact ⟨⟨by decide, by decide⟩, by decide +kernel⟩
theorem aw19_ze : ([4617315517961601024, 4618441417868443648, 4617315517961601024] : List Nat).map ze = [4617315517961601024, 4618441417868443648, 4617315517961601024] := map_ze aw19_num
theorem aw19_ze2 : ([4617315517961601024, 4619567317775286272] : List Nat).map ze = [4617315517961601024, 4619567317775286272] := map_ze aw19_num2
noncomputable def aw19A : VV := (VV.floats [4617315517961601024, 4618441417868443648, 4617315517961601024]).sq
noncomputable def aw19B : VV := (VV.floats [4617315517961601024, 4619567317775286272]).sq
theorem boxs_none19 {A : VV} (h : A.cls < 2) : A.boxs = [] := by cases A <;> first | rfl | (simp [VV.cls] at h)
theorem text_none19 {A : VV} (h : A.cls = 0) : A.text = [] := by cases A <;> first | rfl | (simp [VV.cls] at h)
/-- What numbers make is a vector that the laws hand in. -/
theorem sqL_hG {l : List Nat} (hl : l.length ≤ 1048576) (hN : ∀ x ∈ l, Num x) : hG (sqL l) ∧ (sqL l).len = l.length ∧ (sqL l).cls = 0 ∧ itsA 39 (sqL l) = l.map fun x => (0, x, 0, []) := by
  obtain ⟨h1, h2, h3, h4, h5, h6, h7⟩ := sqL_spec hl hN
  refine ⟨⟨⟨h2, h3, h6, fun a ha => ?_⟩, fun z hz => ?_⟩, h7, h4, ?_⟩
  · rw [boxs_none19 (by omega)] at ha; cases ha
  · rw [text_none19 h4] at hz; cases hz
  · rw [its_num h4, h1]
theorem aw19_A : hG aw19A ∧ aw19A.len = 3 ∧ aw19A.cls = 0 ∧ itsA 39 aw19A = [(0, 4617315517961601024, 0, []), (0, 4618441417868443648, 0, []), (0, 4617315517961601024, 0, [])] := sqL_hG (by decide) aw19_num
theorem aw19_B : hG aw19B ∧ aw19B.len = 2 ∧ aw19B.cls = 0 ∧ itsA 39 aw19B = [(0, 4617315517961601024, 0, []), (0, 4619567317775286272, 0, [])] := sqL_hG (by decide) aw19_num2
theorem iq_words {x y : Nat} (h : x ≠ y) : iq ((0, x, 0, []) : PI) (0, y, 0, []) = false := iq_no (fun e => h (congrArg (fun z : PI => z.2.1) e))
theorem aw19_f5 : fndI [(0, 4617315517961601024, 0, []), (0, 4618441417868443648, 0, []), (0, 4617315517961601024, 0, [])] (0, 4617315517961601024, 0, []) = 0 := fndI_hit (k := 0) (by decide) (iq_yes rfl) (fun j hj => absurd hj (by omega))
theorem aw19_f6 : fndI [(0, 4617315517961601024, 0, []), (0, 4618441417868443648, 0, []), (0, 4617315517961601024, 0, [])] (0, 4618441417868443648, 0, []) = 1 := fndI_hit (k := 1) (by decide) (iq_yes rfl) (fun j hj => by
  match j, hj with
  | 0, _ => exact iq_words (by decide))
theorem aw19_f7 : fndI [(0, 4617315517961601024, 0, []), (0, 4618441417868443648, 0, []), (0, 4617315517961601024, 0, [])] (0, 4619567317775286272, 0, []) = 3 := fndI_none (l := [(0, 4617315517961601024, 0, []), (0, 4618441417868443648, 0, []), (0, 4617315517961601024, 0, [])]) (fun j hj => by
  match j, hj with
  | 0, _ => exact iq_words (by decide)
  | 1, _ => exact iq_words (by decide)
  | 2, _ => exact iq_words (by decide)
  | j + 3, h => exact absurd (show j + 3 < 3 from h) (by omega))
theorem aw19_find : (itsA 39 aw19B).map (fndI (itsA 39 aw19A)) = [0, 3] := by
  rw [aw19_A.2.2.2, aw19_B.2.2.2, List.map_cons, List.map_cons, List.map_nil, aw19_f5, aw19_f7]
theorem aw19_frs : frsL (itsA 39 aw19A) = [0, 1] := by
  rw [aw19_A.2.2.2]
  unfold frsL
  have e : List.range ([(0, 4617315517961601024, 0, []), (0, 4618441417868443648, 0, []), (0, 4617315517961601024, 0, [])] : List PI).length = [0, 1, 2] := by decide
  rw [e]
  have a0 : atI ([(0, 4617315517961601024, 0, []), (0, 4618441417868443648, 0, []), (0, 4617315517961601024, 0, [])] : List PI) (blankI 0) ((0 : Nat) : Int) = (0, 4617315517961601024, 0, []) := rfl
  have a1 : atI ([(0, 4617315517961601024, 0, []), (0, 4618441417868443648, 0, []), (0, 4617315517961601024, 0, [])] : List PI) (blankI 0) ((1 : Nat) : Int) = (0, 4618441417868443648, 0, []) := rfl
  have a2 : atI ([(0, 4617315517961601024, 0, []), (0, 4618441417868443648, 0, []), (0, 4617315517961601024, 0, [])] : List PI) (blankI 0) ((2 : Nat) : Int) = (0, 4617315517961601024, 0, []) := rfl
  rw [List.filter_cons, a0, aw19_f5, if_pos (by decide), List.filter_cons, a1, aw19_f6, if_pos (by decide), List.filter_cons, a2, aw19_f5, if_neg (by decide), List.filter_nil]
theorem aw19_sel : gV 39 (aw19A.sel [0, 1]) ∧ (aw19A.sel [0, 1]).cls = 0 ∧ itsA 39 (aw19A.sel [0, 1]) = [(0, 4617315517961601024, 0, []), (0, 4618441417868443648, 0, [])] := by
  obtain ⟨h1, h2, h3, h4⟩ := aw19_A
  refine ⟨gV_sel (d := 38) h1.1 (by decide), ?_, ?_⟩
  · rw [VV.sel_cls _ _ (VV.nums_num h1.1.1 h1.1.2.1) (by decide)]; exact h3
  · rw [its_sel (d := 38) h1.1 (by decide), h4]; rfl
theorem hfind19 {ok ok2 : Nat → Prop} (u u2 : Value) (w : World) (h : IsV w ok u aw19A) (h2 : IsV w ok2 u2 aw19B) (hT : TabAt w) :
    Calls Tryz.prog 12 #[.agg #[u], .agg #[u2]] w fun e w' => ∃ v, e = .returned v ∧ Slc w' (fun _ => True) v 2 (ints [0, 3]) ∧ Below w.heap.size w w' := by
  refine (hfind_calls u u2 aw19A aw19B w h aw19_A.1 h2 aw19_B.1 hT).mono ?_
  rintro e w' ⟨v, h1, h2, h3⟩
  rw [aw19_find, aw19_B.2.1] at h2
  exact ⟨v, h1, h2.any, h3⟩
theorem hunique19 {ok : Nat → Prop} (u : Value) (w : World) (h : IsV w ok u aw19A) (hT : TabAt w) :
    Calls Tryz.prog 20 #[.agg #[u]] w fun e w' => ∃ u', e = .returned (.agg #[u']) ∧ IsV w' (fun _ => True) u' (aw19A.sel [0, 1]) ∧ Below w.heap.size w w' := by
  refine (hunique_calls u aw19A w h aw19_A.1 hT).mono ?_
  rintro e w' ⟨v, h1, h2, h3⟩
  rw [aw19_frs] at h2
  exact ⟨v, h1, IsV.any h2, h3⟩
set_option maxHeartbeats 8000000 in
theorem awake19_calls (w : World) (hT : TabAt w) : Calls Tryz.prog 7 #[] w (Yes19 w) := by
  obtain ⟨W1, hW1⟩ : ∃ W1, W1 = w.alloc (.cells #[.float .f64 4617315517961601024, .float .f64 4618441417868443648, .float .f64 4617315517961601024] 31) := ⟨_, rfl⟩
  have HB := Lib.hid (show Below w.heap.size w W1 by rw [hW1]; exact below_new _ _)
  have HL := Lib.hid (show Slc W1 (fun _ => True) (.slice (some ⟨w.heap.size, 0, none⟩) 3 3) [4617315517961601024, 4618441417868443648, 4617315517961601024].length (f64s [4617315517961601024, 4618441417868443648, 4617315517961601024]) by
    rw [hW1]; exact (Slc.owned (World.ownsRow_lit (base := 0) (e := 31) (size := 1) w #[.float .f64 4617315517961601024, .float .f64 4618441417868443648, .float .f64 4617315517961601024] 3 (Nat.zero_le _) (by unfold maxLen; omega) rfl)).keep (Kept.refl _ _) (fun _ _ _ => trivial))
  have HT := Lib.hid (show TabAt W1 from fun j hj => keep_below HB.out _ _ (hT j hj))
  have hfold := hW1.symm
  clear hW1 hT
  go_enter Tryz.func7, Tryz.ntmps7
  go_wp2_with fail
  clear hfold
  refine (numbers_yes _ [4617315517961601024, 4618441417868443648, 4617315517961601024] _ HL.out (by decide) (fun x hx => (aw19_num x hx).1) HT.out).mono ?_
  rintro e W11 ⟨u, rfl, hu, hB⟩
  replace HB := Lib.hid (HB.out.trans (hB.mono HB.out.size))
  replace HT := Lib.hid (fun j hj => keep_below hB _ _ (HT.out j hj))
  replace HL := Lib.hid (HL.out.below hB)
  rw [aw19_ze] at hu
  have HU := Lib.hid (show IsV W11 (fun _ => True) u aw19A from IsV.any hu)
  have hsu := HU.out.store
  clear hu
  clear hB
  clear HL
  obtain ⟨W12, hWn⟩ : ∃ xw9, W11.alloc (.cells #[u] 36) = xw9 := ⟨_, rfl⟩
  have hB : Below W11.heap.size W11 W12 := by rw [← hWn]; exact below_new _ _
  have hNB : At1 W12 W11.heap.size (u) := by rw [← hWn]; exact At1.new _ _ _
  replace HB := Lib.hid (HB.out.trans (hB.mono HB.out.size))
  replace HT := Lib.hid (fun j hj => keep_below hB _ _ (HT.out j hj))
  replace HU := Lib.hid (HU.out.grow hB)
  have HA := Lib.hid hNB
  clear hNB hB
  have cHA0 := HA.out.2.1
  go_wp2_with fail
  clear hWn
  obtain ⟨W13, hWn⟩ : ∃ xw9, W12.alloc (.cells #[.float .f64 4617315517961601024, .float .f64 4619567317775286272] 31) = xw9 := ⟨_, rfl⟩
  have hB : Below W12.heap.size W12 W13 := by rw [← hWn]; exact below_new _ _
  have hNB : Slc W13 (fun _ => True) (.slice (some ⟨W12.heap.size, 0, none⟩) 2 2) 2 (f64s [4617315517961601024, 4619567317775286272]) := by
    rw [← hWn]; exact (Slc.owned (World.ownsRow_lit (base := 0) (e := 31) (size := 1) W12 #[.float .f64 4617315517961601024, .float .f64 4619567317775286272] 2 (Nat.zero_le _) (by unfold maxLen; omega) rfl)).keep (Kept.refl _ _) (fun _ _ _ => trivial)
  rw [hWn]
  clear hWn
  clear cHA0
  replace HB := Lib.hid (HB.out.trans (hB.mono HB.out.size))
  replace HT := Lib.hid (fun j hj => keep_below hB _ _ (HT.out j hj))
  replace HU := Lib.hid (HU.out.grow hB)
  replace HA := Lib.hid (HA.out.below hB)
  have HL2 := Lib.hid hNB
  clear hNB hB
  refine (numbers_yes _ [4617315517961601024, 4619567317775286272] _ HL2.out (by decide) (fun x hx => (aw19_num2 x hx).1) HT.out).mono ?_
  rintro e W14 ⟨u2, rfl, hu2, hB⟩
  replace HB := Lib.hid (HB.out.trans (hB.mono HB.out.size))
  replace HT := Lib.hid (fun j hj => keep_below hB _ _ (HT.out j hj))
  replace HU := Lib.hid (HU.out.grow hB)
  replace HA := Lib.hid (HA.out.below hB)
  replace HL2 := Lib.hid (HL2.out.below hB)
  rw [aw19_ze2] at hu2
  have HU2 := Lib.hid (show IsV W14 (fun _ => True) u2 aw19B from IsV.any hu2)
  have hsu2 := HU2.out.store
  clear hu2
  clear hB
  obtain ⟨W15, hWn⟩ : ∃ xw9, W14.alloc (.cells #[u2] 36) = xw9 := ⟨_, rfl⟩
  have hB : Below W14.heap.size W14 W15 := by rw [← hWn]; exact below_new _ _
  have hNB : At1 W15 W14.heap.size (u2) := by rw [← hWn]; exact At1.new _ _ _
  replace HB := Lib.hid (HB.out.trans (hB.mono HB.out.size))
  replace HT := Lib.hid (fun j hj => keep_below hB _ _ (HT.out j hj))
  replace HU := Lib.hid (HU.out.grow hB)
  replace HA := Lib.hid (HA.out.below hB)
  replace HL2 := Lib.hid (HL2.out.below hB)
  replace HU2 := Lib.hid (HU2.out.grow hB)
  have HA2 := Lib.hid hNB
  clear hNB hB
  have cHA0 := HA.out.2.1
  have cHA20 := HA2.out.2.1
  go_wp2_with fail
  clear hWn
  refine (hfind19 _ _ _ HU.out HU2.out HT.out).mono ?_
  rintro e W16 ⟨vf, rfl, hvf, hB⟩
  clear cHA0 cHA20
  replace HB := Lib.hid (HB.out.trans (hB.mono HB.out.size))
  replace HT := Lib.hid (fun j hj => keep_below hB _ _ (HT.out j hj))
  replace HU := Lib.hid (HU.out.grow hB)
  replace HA := Lib.hid (HA.out.below hB)
  replace HL2 := Lib.hid (HL2.out.below hB)
  replace HU2 := Lib.hid (HU2.out.grow hB)
  replace HA2 := Lib.hid (HA2.out.below hB)
  have HVF := Lib.hid hvf
  obtain ⟨af, cf, rfl, _⟩ := hvf.opened
  clear hvf
  clear hB
  have cHA0 := HA.out.2.1
  have cHA20 := HA2.out.2.1
  go_wp2_with fail
  obtain ⟨W17, hWn⟩ : ∃ xw9, W16.alloc (.cells #[.int .i64 0, .int .i64 3] 3) = xw9 := ⟨_, rfl⟩
  have hB : Below W16.heap.size W16 W17 := by rw [← hWn]; exact below_new _ _
  have hNB : Slc W17 (fun _ => True) (.slice (some ⟨W16.heap.size, 0, none⟩) 2 2) 2 (ints [0, 3]) := by
    rw [← hWn]; exact (Slc.owned (World.ownsRow_lit (base := 0) (e := 3) (size := 1) W16 #[.int .i64 0, .int .i64 3] 2 (Nat.zero_le _) (by unfold maxLen; omega) rfl)).keep (Kept.refl _ _) (fun _ _ _ => trivial)
  rw [hWn]
  clear hWn
  clear cHA0 cHA20
  replace HB := Lib.hid (HB.out.trans (hB.mono HB.out.size))
  replace HT := Lib.hid (fun j hj => keep_below hB _ _ (HT.out j hj))
  replace HU := Lib.hid (HU.out.grow hB)
  replace HA := Lib.hid (HA.out.below hB)
  replace HL2 := Lib.hid (HL2.out.below hB)
  replace HU2 := Lib.hid (HU2.out.grow hB)
  replace HA2 := Lib.hid (HA2.out.below hB)
  replace HVF := Lib.hid (HVF.out.below hB)
  have HL3 := Lib.hid hNB
  clear hNB hB
  refine (ints_eq _ _ [0, 3] 2 _ HVF.out HL3.out rfl (by decide)).mono ?_
  rintro e W18 ⟨rfl, hB⟩
  replace HB := Lib.hid (HB.out.trans (hB.mono HB.out.size))
  replace HT := Lib.hid (fun j hj => keep_below hB _ _ (HT.out j hj))
  replace HU := Lib.hid (HU.out.grow hB)
  replace HA := Lib.hid (HA.out.below hB)
  replace HL2 := Lib.hid (HL2.out.below hB)
  replace HU2 := Lib.hid (HU2.out.grow hB)
  replace HA2 := Lib.hid (HA2.out.below hB)
  replace HVF := Lib.hid (HVF.out.below hB)
  replace HL3 := Lib.hid (HL3.out.below hB)
  clear hB
  have cHA0 := HA.out.2.1
  have cHA20 := HA2.out.2.1
  go_wp2_with fail
  refine (hunique19 _ _ HU.out HT.out).mono ?_
  rintro e W19 ⟨uq, rfl, huq, hB⟩
  clear cHA0 cHA20
  replace HB := Lib.hid (HB.out.trans (hB.mono HB.out.size))
  replace HT := Lib.hid (fun j hj => keep_below hB _ _ (HT.out j hj))
  replace HU := Lib.hid (HU.out.grow hB)
  replace HA := Lib.hid (HA.out.below hB)
  replace HL2 := Lib.hid (HL2.out.below hB)
  replace HU2 := Lib.hid (HU2.out.grow hB)
  replace HA2 := Lib.hid (HA2.out.below hB)
  replace HVF := Lib.hid (HVF.out.below hB)
  replace HL3 := Lib.hid (HL3.out.below hB)
  have HUQ := Lib.hid huq
  clear huq
  clear hB
  have cHA0 := HA.out.2.1
  have cHA20 := HA2.out.2.1
  go_wp2_with fail
  obtain ⟨W20, hWn⟩ : ∃ xw9, W19.alloc (.cells #[.int .i64 0, .float .f64 4617315517961601024, .int .i32 0, .slice none 0 0, .int .i64 0, .float .f64 4618441417868443648, .int .i32 0, .slice none 0 0] 34) = xw9 := ⟨_, rfl⟩
  have hB : Below W19.heap.size W19 W20 := by rw [← hWn]; exact below_new _ _
  have hNB : Its W20 (fun _ => True) (.slice (some ⟨W19.heap.size, 0, none⟩) 2 2) [(0, 4617315517961601024, 0, []), (0, 4618441417868443648, 0, [])] := by
    rw [← hWn]
    refine (Its.of_own (ok := fun _ => True) (base := 0) (L := [(0, 4617315517961601024, 0, .slice none 0 0), (0, 4618441417868443648, 0, .slice none 0 0)]) (World.ownsRow_lit (base := 0) (e := 34) (size := 4) W19 #[.int .i64 0, .float .f64 4617315517961601024, .int .i32 0, .slice none 0 0, .int .i64 0, .float .f64 4618441417868443648, .int .i32 0, .slice none 0 0] 2 (Nat.zero_le _) (by unfold maxLen; omega) rfl) ?_).wide (fun _ _ _ => trivial)
    exact ((Quad.nil _ _).snoc (x := (0, 4617315517961601024, 0, [])) (IsB.nil _ _)).snoc (x := (0, 4618441417868443648, 0, [])) (IsB.nil _ _)
  rw [hWn]
  clear hWn
  clear cHA0 cHA20
  replace HB := Lib.hid (HB.out.trans (hB.mono HB.out.size))
  replace HT := Lib.hid (fun j hj => keep_below hB _ _ (HT.out j hj))
  replace HU := Lib.hid (HU.out.grow hB)
  replace HA := Lib.hid (HA.out.below hB)
  replace HL2 := Lib.hid (HL2.out.below hB)
  replace HU2 := Lib.hid (HU2.out.grow hB)
  replace HA2 := Lib.hid (HA2.out.below hB)
  replace HVF := Lib.hid (HVF.out.below hB)
  replace HL3 := Lib.hid (HL3.out.below hB)
  replace HUQ := Lib.hid (HUQ.out.grow hB)
  have HITS := Lib.hid hNB
  clear hNB hB
  refine (shows19_calls _ (aw19A.sel [0, 1]) _ _ 0 _ HUQ.out aw19_sel.1 aw19_sel.2.1 HITS.out aw19_sel.2.2.symm HT.out).mono ?_
  rintro e W21 ⟨rfl, hB⟩
  replace HB := Lib.hid (HB.out.trans (hB.mono HB.out.size))
  replace HT := Lib.hid (fun j hj => keep_below hB _ _ (HT.out j hj))
  replace HU := Lib.hid (HU.out.grow hB)
  replace HA := Lib.hid (HA.out.below hB)
  replace HL2 := Lib.hid (HL2.out.below hB)
  replace HU2 := Lib.hid (HU2.out.grow hB)
  replace HA2 := Lib.hid (HA2.out.below hB)
  replace HVF := Lib.hid (HVF.out.below hB)
  replace HL3 := Lib.hid (HL3.out.below hB)
  replace HUQ := Lib.hid (HUQ.out.grow hB)
  replace HITS := Lib.hid (HITS.out.grow hB)
  clear hB
  have cHA0 := HA.out.2.1
  have cHA20 := HA2.out.2.1
  go_wp2_with fail
  go_ret
  exact ⟨rfl, HB.out⟩
end Go.Proofs.YtbdhibcbpgjbmaaGreatDoor

/- The reference of layer 19: Find, Firsts, Without. Written by tools/gen_haa.py. -/
namespace Go.Proofs.YtbdhibcbpgjbmaaGreatDoor
set_option maxRecDepth 100000
open Go.RowKit Fl
set_option linter.unusedVariables false

/-- Items whose numbers are numbers, all the way down. -/
def okI (d : Nat) (x : PI) : Prop := Num x.2.1 ∧ ∀ q ∈ x.2.2.2, nice d q
set_option maxHeartbeats 4000000 in
theorem rfind19_calls (d : Nat) {ok ok2 : Nat → Prop} (lv : Value) (l : List PI) (x : PI) (bo : Option Addr) (bc : Nat) (w : World) (hl : Its w ok lv l) (hm : l.length ≤ 1048576) (hL : ∀ y ∈ l, okI d y) (hX : okI d x) (hx : IsB w ok2 (.slice bo x.2.2.2.length bc) x.2.2.2) :
    Calls Tryz.prog 9 #[lv, .agg #[.int .i64 x.1, .float .f64 x.2.1, .int .i32 x.2.2.1, .slice bo x.2.2.2.length bc]] w fun e w' => e = .returned (.int .i64 (fndI l x : Int)) ∧ Below w.heap.size w w' := by
  obtain ⟨ao, cap, rfl, _, _⟩ := hl.len
  obtain ⟨W1, hW1⟩ : ∃ W1, W1 = w.alloc (.cells #[.int .i64 x.1, .float .f64 x.2.1, .int .i32 x.2.2.1, .slice bo x.2.2.2.length bc] 34) := ⟨_, rfl⟩
  have HB := Lib.hid (show Below w.heap.size w W1 by rw [hW1]; exact below_new _ _)
  have HX4 := Lib.hid (show Blk4 W1 w.heap.size (.int .i64 x.1) (.float .f64 x.2.1) (.int .i32 x.2.2.1) (.slice bo x.2.2.2.length bc) by rw [hW1]; exact Blk4.new w _ _ _ _ _)
  have HL := Lib.hid (show Its W1 ok _ l from hl.grow HB.out)
  have HBX := Lib.hid (show IsB W1 ok2 _ x.2.2.2 from hx.grow HB.out)
  have HOL := Lib.hid hL
  have HOX := Lib.hid hX
  obtain ⟨n, hn⟩ : ∃ n, l.length = n := ⟨_, rfl⟩
  have HN := Lib.hid hn
  rw [hn] at hm HL ⊢
  have hfold := hW1.symm
  obtain ⟨g, hg⟩ : ∃ g, w.heap.size = g := ⟨_, rfl⟩
  have HG := Lib.hid hg
  rw [hg] at HB HX4
  clear hl hx hL hX hW1 hn
  go_enter Tryz.func9, Tryz.ntmps9
  go_wp2_with fail
  (try rw [hg])
  clear hfold hg
  go_loopw [5] (fun iv wr => ∃ k : Nat, k ≤ n ∧ iv = .int .i64 k ∧ (∀ (j : Nat) (y : PI), j < k → l[j]? = some y → iq y x = false) ∧ Below g W1 wr ∧ W1.heap.size ≤ wr.heap.size ∧ Below W1.heap.size W1 wr) (fun iv _ => n - (intOf iv).toNat)
  case atStart => exact ⟨0, by omega, rfl, fun j y h => absurd h (by omega), Below.refl _ _, Nat.le_refl _, Below.refl _ _⟩
  case round => 
    obtain ⟨k, hk, rfl, hno, hB1, hS1, hB2⟩ := hrel
    have HNO := Lib.hid hno
    have HB1 := Lib.hid hB1
    have HB2 := Lib.hid hB2
    clear hno hB1 hS1 hB2
    by_cases hlt : k < n
    · obtain ⟨y, hy⟩ : ∃ y, l[k]? = some y := ⟨_, List.getElem?_eq_getElem (by rw [HN.out]; exact hlt)⟩
      have HY := Lib.hid hy
      have HOY := Lib.hid (HOL.out y (List.mem_of_getElem? hy))
      obtain ⟨lb, loff, lbo, lbc, rfl, _, d0, d1, d2, d3, hby⟩ := (HL.out.grow HB2.out).at HY.out
      have HBY := Lib.hid hby
      have HX5 := Lib.hid (HX4.out.below HB2.out)
      have HBX5 := Lib.hid (HBX.out.grow HB2.out)
      obtain ⟨bb, hbb⟩ : ∃ bb, iq y x = bb := ⟨_, rfl⟩
      have HBB := Lib.hid hbb
      clear hy hby hbb
      go_wp2_with fail
      obtain ⟨W11, hWD⟩ : ∃ xw9, wr.drew = xw9 := ⟨_, rfl⟩
      have hB : Below wr.heap.size wr W11 := by rw [← hWD]; exact Below.drewN' (Below.refl _ _) 1
      have HC := Lib.hid (show W11.cell? ⟨lb, loff + k * 4, none⟩ = some (.int .i64 y.1) ∧ W11.cell? ⟨lb, loff + k * 4 + 1, none⟩ = some (.float .f64 y.2.1) ∧ W11.cell? ⟨lb, loff + k * 4 + 2, none⟩ = some (.int .i32 y.2.2.1) ∧ W11.cell? ⟨lb, loff + k * 4 + 3, none⟩ = some (.slice lbo y.2.2.2.length lbc) ∧ W11.cell? ⟨g, 0, none⟩ = some (.int .i64 x.1) ∧ W11.cell? ⟨g, 1, none⟩ = some (.float .f64 x.2.1) ∧ W11.cell? ⟨g, 2, none⟩ = some (.int .i32 x.2.2.1) ∧ W11.cell? ⟨g, 3, none⟩ = some (.slice bo x.2.2.2.length bc) from ⟨keep_below hB _ _ d0, keep_below hB _ _ d1, keep_below hB _ _ d2, keep_below hB _ _ d3, keep_below hB _ _ HX5.out.2.1, keep_below hB _ _ HX5.out.2.2.1, keep_below hB _ _ HX5.out.2.2.2.1, keep_below hB _ _ HX5.out.2.2.2.2.1⟩)
      replace HBY := Lib.hid (HBY.out.grow hB)
      replace HBX5 := Lib.hid (HBX5.out.grow hB)
      have HSZ2 := Lib.hid HB2.out.size
      replace HB2 := Lib.hid (HB2.out.trans (hB.mono HB2.out.size))
      have HGW := Lib.hid (show g ≤ W1.heap.size by have := HB.out.size; rw [HG.out] at this; exact this)
      replace HB1 := Lib.hid (HB1.out.trans (hB.mono (Nat.le_trans HGW.out HSZ2.out)))
      clear d0 d1 d2 d3 hB
      refine wp_region_held_drew (S := fun w' => w'.cell? ⟨lb, loff + k * 4, none⟩ = some (.int .i64 y.1) ∧ w'.cell? ⟨lb, loff + k * 4 + 1, none⟩ = some (.float .f64 y.2.1) ∧ w'.cell? ⟨lb, loff + k * 4 + 2, none⟩ = some (.int .i32 y.2.2.1) ∧ w'.cell? ⟨lb, loff + k * 4 + 3, none⟩ = some (.slice lbo y.2.2.2.length lbc) ∧ w'.cell? ⟨g, 0, none⟩ = some (.int .i64 x.1) ∧ w'.cell? ⟨g, 1, none⟩ = some (.float .f64 x.2.1) ∧ w'.cell? ⟨g, 2, none⟩ = some (.int .i32 x.2.2.1) ∧ w'.cell? ⟨g, 3, none⟩ = some (.slice bo x.2.2.2.length bc)) (by kernel_rfl) (by rw [hWD]; exact HC.out) (fun hHeld => ?_)
      rw [hWD] at hHeld ⊢
      clear hWD
      refine wpAnyH_take (i := 0) (v := ?_) rfl (by kernel_rfl) (by kernel_rfl) (by kernel_rfl) (fun _ _ _ h => h) (Or.inl ⟨by rfl, ?_⟩) (by assumption) ?_
      rotate_left
      · (intro w hSw; (try dsimp only at hSw); go_simp; try with_reducible rfl)
      simp only [Act.put, List.getElem_toArray, List.getElem_cons_zero, List.setIfInBounds_toArray, List.set_cons_zero, List.set_cons_succ]
      refine wpAnyH_take (i := 1) (v := ?_) rfl (by kernel_rfl) (by kernel_rfl) (by kernel_rfl) (fun _ _ _ h => h) (Or.inl ⟨by rfl, ?_⟩) (by assumption) ?_
      rotate_left
      · (intro w hSw; (try dsimp only at hSw); go_simp; try with_reducible rfl)
      simp only [Act.put, List.getElem_toArray, List.getElem_cons_succ, List.getElem_cons_zero, List.setIfInBounds_toArray, List.set_cons_zero, List.set_cons_succ]
      refine wpAnyH_take (i := 2) (v := ?_) rfl (by kernel_rfl) (by kernel_rfl) (by kernel_rfl) (fun _ _ _ h => h) (Or.inl ⟨by rfl, ?_⟩) (by assumption) ?_
      rotate_left
      · (intro w hSw; (try dsimp only at hSw); go_simp; try with_reducible rfl)
      simp only [Act.put, List.getElem_toArray, List.getElem_cons_succ, List.getElem_cons_zero, List.setIfInBounds_toArray, List.set_cons_zero, List.set_cons_succ]
      refine wpAnyH_take (i := 3) (v := ?_) rfl (by kernel_rfl) (by kernel_rfl) (by kernel_rfl) (fun _ _ _ h => h) (Or.inl ⟨by rfl, ?_⟩) (by assumption) ?_
      rotate_left
      · (intro w hSw; (try dsimp only at hSw); go_simp; try with_reducible rfl)
      simp only [Act.put, List.getElem_toArray, List.getElem_cons_succ, List.getElem_cons_zero, List.setIfInBounds_toArray, List.set_cons_zero, List.set_cons_succ]
      refine wpAnyH_take (i := 4) (v := ?_) rfl (by kernel_rfl) (by kernel_rfl) (by kernel_rfl) (fun _ _ _ h => h) (Or.inl ⟨by rfl, ?_⟩) (by assumption) ?_
      rotate_left
      · (intro w hSw; (try dsimp only at hSw); go_simp; try with_reducible rfl)
      simp only [Act.put, List.getElem_toArray, List.getElem_cons_succ, List.getElem_cons_zero, List.setIfInBounds_toArray, List.set_cons_zero, List.set_cons_succ]
      refine wpAnyH_ready (rs := [5]) (by kernel_rfl) (by simp) ?_
      refine AllReadyH.cons (o := _) rfl (fun K' hK' => ?_) AllReadyH.nil
      clear hHeld
      go_simp
      refine (pitem_calls d (psame_calls d) _ _ y x _ _ _ _ d _ HOY.out.1 HOX.out.1 HOY.out.2 HOX.out.2 HBY.out HBX5.out).mono ?_
      rintro e W12 ⟨rfl, hB⟩
      rw [HBB.out]
      have HC2 := Lib.hid (show W12.cell? ⟨lb, loff + k * 4, none⟩ = some (.int .i64 y.1) ∧ W12.cell? ⟨lb, loff + k * 4 + 1, none⟩ = some (.float .f64 y.2.1) ∧ W12.cell? ⟨lb, loff + k * 4 + 2, none⟩ = some (.int .i32 y.2.2.1) ∧ W12.cell? ⟨lb, loff + k * 4 + 3, none⟩ = some (.slice lbo y.2.2.2.length lbc) ∧ W12.cell? ⟨g, 0, none⟩ = some (.int .i64 x.1) ∧ W12.cell? ⟨g, 1, none⟩ = some (.float .f64 x.2.1) ∧ W12.cell? ⟨g, 2, none⟩ = some (.int .i32 x.2.2.1) ∧ W12.cell? ⟨g, 3, none⟩ = some (.slice bo x.2.2.2.length bc) from ⟨keep_below hB _ _ HC.out.1, keep_below hB _ _ HC.out.2.1, keep_below hB _ _ HC.out.2.2.1, keep_below hB _ _ HC.out.2.2.2.1, keep_below hB _ _ HC.out.2.2.2.2.1, keep_below hB _ _ HC.out.2.2.2.2.2.1, keep_below hB _ _ HC.out.2.2.2.2.2.2.1, keep_below hB _ _ HC.out.2.2.2.2.2.2.2⟩)
      have HSZ3 := Lib.hid HB2.out.size
      replace HB2 := Lib.hid (HB2.out.trans (hB.mono HB2.out.size))
      replace HB1 := Lib.hid (HB1.out.trans (hB.mono (Nat.le_trans HGW.out HSZ3.out)))
      clear hB
      refine hK'.out _ _ HC2.out (fun hHeld => ?_)
      clear hK' K'
      refine wpAnyH_done (by kernel_rfl) ?_ _
      clear hHeld
      cases bb
      · go_wp2
        go_roundw
        case rel =>
          refine ⟨k + 1, by omega, by go_num, fun j z hj hz => ?_, HB1.out, HB2.out.size, HB2.out⟩
          rcases Nat.lt_or_ge j k with h | h
          · exact HNO.out j z h hz
          · obtain rfl : j = k := by omega
            rw [HY.out] at hz; cases hz; exact HBB.out
        case measure => simp [intOf]; omega
      · go_wp2
        go_ret
        refine ⟨?_, by rw [HG.out]; exact HB.out.trans HB1.out⟩
        rw [fndI_hit (k := k) (by rw [HN.out]; exact hlt) (by have := List.getElem?_eq_some_iff.1 HY.out; rw [this.2]; exact HBB.out) (fun j hj => HNO.out j _ hj (List.getElem?_eq_getElem _))]
        rfl
    · go_wp2
      go_ret
      refine ⟨?_, by rw [HG.out]; exact HB.out.trans HB1.out⟩
      rw [fndI_none (fun j hj => HNO.out j _ (by rw [HN.out] at hj; omega) (List.getElem?_eq_getElem _)), HN.out]
      rfl
set_option maxHeartbeats 4000000 in
theorem rfirsts19_calls (d : Nat) {ok : Nat → Prop} (lv : Value) (l : List PI) (w : World) (hl : Its w ok lv l) (hm : l.length ≤ 100000) (hL : ∀ y ∈ l, okI d y) :
    Calls Tryz.prog 15 #[lv] w fun e w' => ∃ v, e = .returned v ∧ Slc w' (fun b => w.heap.size ≤ b) v (frsL l).length (ints (zL (frsL l))) ∧ Below w.heap.size w w' := by
  obtain ⟨i0, hi, hz0, hz1, hz2⟩ := info_parts info_int
  have HI0 := Lib.hid (And.intro hi (And.intro hz0 (And.intro hz1 hz2)))
  obtain ⟨ao, cap, rfl, _, _⟩ := hl.len
  have HL := Lib.hid hl
  have HOL := Lib.hid hL
  obtain ⟨F, hF⟩ : ∃ F : Nat → List Nat, ∀ k, F k = (List.range k).filter (fun (i : Nat) => decide (fndI l (atI l (blankI 0) (i : Int)) = i)) := ⟨_, fun _ => rfl⟩
  have HF0 := Lib.hid (show F 0 = [] by rw [hF]; rfl)
  have HFS := Lib.hid (show ∀ k y, l[k]? = some y → F (k + 1) = F k ++ (if fndI l y = k then [k] else []) from fun k y hy => by
    obtain ⟨h1, h2⟩ := List.getElem?_eq_some_iff.1 hy
    rw [hF, hF, filter_range_snoc]
    simp only [atI_nat h1, h2, decide_eq_true_eq])
  have HFN := Lib.hid (show F l.length = frsL l by rw [hF]; rfl)
  have HFL := Lib.hid (show ∀ k, (F k).length ≤ k from fun k => by rw [hF]; have := List.length_filter_le (fun (i : Nat) => decide (fndI l (atI l (blankI 0) (i : Int)) = i)) (List.range k); rwa [List.length_range] at this)
  obtain ⟨n, hn⟩ : ∃ n, l.length = n := ⟨_, rfl⟩
  have HN := Lib.hid hn
  rw [hn] at HL hm HFN
  clear hi hz0 hz1 hz2 hl hL hF
  rw [hn]
  clear hn
  obtain ⟨R, hR⟩ : ∃ R, frsL l = R := ⟨_, rfl⟩
  rw [hR] at HFN ⊢
  clear hR
  go_enter Tryz.func15, Tryz.ntmps15
  go_wp2_with fail
  go_loopw [3, 4] (fun ov iv wr => ∃ k : Nat, k ≤ n ∧ iv = .int .i64 k ∧ wr.ownsRow w.heap.size 3 1 ov (F k).length (ints (zL (F k))) ∧ Below w.heap.size w wr) (fun _ iv _ => n - (intOf iv).toNat)
  case atStart => exact ⟨0, by omega, rfl, by rw [HF0.out]; exact World.ownsRow_nil _ _ _ _, Below.refl _ _⟩
  case round =>
    obtain ⟨k, hk, rfl, hown, hB⟩ := hrel
    obtain ⟨vo, vc, rfl⟩ := owns_form hown
    have HO := Lib.hid hown
    have HB := Lib.hid hB
    clear hown hB
    by_cases hlt : k < n
    · obtain ⟨y, hy⟩ : ∃ y, l[k]? = some y := ⟨_, List.getElem?_eq_getElem (by rw [HN.out]; exact hlt)⟩
      have HY := Lib.hid hy
      have HOY := Lib.hid (HOL.out y (List.mem_of_getElem? hy))
      obtain ⟨lb, loff, lbo, lbc, rfl, _, d0, d1, d2, d3, hby⟩ := (HL.out.grow HB.out).at HY.out
      have HBY := Lib.hid hby
      have HLW := Lib.hid (HL.out.grow HB.out)
      obtain ⟨m, hmm⟩ : ∃ m, fndI l y = m := ⟨_, rfl⟩
      have HMM := Lib.hid hmm
      obtain ⟨c, hc⟩ : ∃ c, (F k).length = c := ⟨_, rfl⟩
      have HC := Lib.hid hc
      have HCK := Lib.hid (show c ≤ k by rw [← hc]; exact HFL.out k)
      rw [hc] at HO ⊢
      clear hy hby hmm hc
      go_wp2_with fail
      refine (rfind19_calls d _ l y _ _ _ HLW.out (by rw [HN.out]; omega) HOL.out HOY.out HBY.out).mono ?_
      rintro e W2 ⟨rfl, hB2⟩
      rw [HMM.out]
      have HSW := Lib.hid HB.out.size
      have HO2 := Lib.hid (owns_below HO.out hB2)
      have HB2 := Lib.hid (HB.out.trans (hB2.mono HB.out.size))
      clear hB2 d0 d1 d2 d3
      by_cases hmk : m = k
      · have hme : ((m : Int) == (k : Int)) = true := by rw [hmk]; simp
        have HS := Lib.hid (show F (k + 1) = F k ++ [k] by rw [HFS.out k y HY.out, HMM.out, if_pos hmk])
        clear hmk
        obtain ⟨W4, hW4⟩ : ∃ W4, W4 = W2.alloc (.cells #[.int .i64 (k : Int)] 3) := ⟨_, rfl⟩
        have HB4 := Lib.hid (show Below w.heap.size w W4 by rw [hW4]; exact HB2.out.alloc HB2.out.size _)
        have HO4 := Lib.hid (show W4.ownsRow w.heap.size 3 1 (.slice vo c vc) c (ints (zL (F k))) by rw [hW4]; exact HO2.out.alloc _)
        have HN4 := Lib.hid (show ∀ j u, ([.int .i64 (k : Int)] : List Value)[j]? = some u → W4.cell? ((⟨W2.heap.size, 0, none⟩ : Addr).add j) = some u by rw [hW4]; exact cell_one_new _ _ _)
        have HSZ4 := Lib.hid HB4.out.size
        have HM1 := Lib.hid (show c + 1 ≤ maxLen by have := HCK.out; unfold maxLen; omega)
        have HM2 := Lib.hid (show (c + 1) * 8 ≤ 140737488355328 by have := HCK.out; omega)
        have hfold4 := hW4.symm
        clear hW4
        go_wp2_with (at_builtin; refine wpList_append_own _ rfl _ _ 22 rfl w.heap.size 3 i0 (.int .i64 0) 1 8 Tryz.underlying22 HI0.out.1 HI0.out.2.1 HI0.out.2.2.1 HI0.out.2.2.2 rfl (by decide) _ _ _ rfl HO4.out ⟨W2.heap.size, 0, none⟩ 1 1 [.int .i64 (k : Int)] rfl rfl HN4.out (one_intV _) HM1.out HM2.out HSZ4.out ?_)
        intro v' w1 hown' hgrow _
        have HO1 := Lib.hid hown'
        have HB1 := Lib.hid (grown_below HB4.out HO4.out (Nat.le_refl _) HSZ4.out hgrow)
        clear hown' hgrow hfold4
        go_wp2
        go_roundw
        case rel =>
          refine ⟨k + 1, by omega, by go_num, ?_, HB1.out⟩
          rw [HS.out, List.length_append, HC.out, zL_app, ints_append2]
          exact HO1.out
        case measure => simp [intOf]; omega
      · have hme : ((m : Int) == (k : Int)) = false := by rw [beq_eq_false_iff_ne]; omega
        have HS := Lib.hid (show F (k + 1) = F k by rw [HFS.out k y HY.out, HMM.out, if_neg hmk, List.append_nil])
        clear hmk
        go_wp2
        go_roundw
        case rel =>
          refine ⟨k + 1, by omega, by go_num, ?_, HB2.out⟩
          rw [HS.out, HC.out]
          exact HO2.out
        case measure => simp [intOf]; omega
    · have hkn : k = n := by omega
      have HO5 := Lib.hid (show wr.ownsRow w.heap.size 3 1 (.slice vo (F k).length vc) R.length (ints (zL R)) by rw [← HFN.out, ← hkn]; exact HO.out)
      clear hkn HO
      go_wp2
      go_ret
      exact ⟨_, rfl, Slc.owned HO5.out, HB.out⟩
set_option maxHeartbeats 4000000 in
theorem rwithout19_true (d : Nat) {ok ok2 : Nat → Prop} (lv mv : Value) (l ml : List PI) (w : World) (hl : Its w ok lv l) (hm : l.length ≤ 100000) (hL : ∀ y ∈ l, okI d y) (hml : Its w ok2 mv ml) (hm2 : ml.length ≤ 1048576) (hL2 : ∀ y ∈ ml, okI d y) :
    Calls Tryz.prog 17 #[lv, mv, .bool true] w fun e w' => ∃ v, e = .returned v ∧ Its w' (fun b => (ok b ∧ b < w.heap.size) ∨ w.heap.size ≤ b) v (witL l ml true) ∧ Below w.heap.size w w' := by
  obtain ⟨i0, hi, hz0, hz1, hz2⟩ := info_parts info_item
  have HI0 := Lib.hid (And.intro hi (And.intro hz0 (And.intro hz1 hz2)))
  obtain ⟨ao, cap, rfl, _, _⟩ := hl.len
  obtain ⟨bo, bcap, rfl, _, _⟩ := hml.len
  have HL := Lib.hid hl.lt
  have HML := Lib.hid hml
  have HOL := Lib.hid hL
  have HOM := Lib.hid hL2
  obtain ⟨F, hF⟩ : ∃ F : Nat → List PI, ∀ k, F k = (l.take k).filter (fun x => decide (fndI ml x < ml.length) == true) := ⟨_, fun _ => rfl⟩
  have HF0 := Lib.hid (show F 0 = [] by rw [hF]; rfl)
  have HFS := Lib.hid (show ∀ k y, l[k]? = some y → F (k + 1) = F k ++ (if decide (fndI ml y < ml.length) == true then [y] else []) from fun k y hy => by
    rw [hF, hF, ptake hy, List.filter_append]
    congr 1
    by_cases h : (decide (fndI ml y < ml.length) == true) = true
    · rw [if_pos h]; simp [List.filter, h]
    · rw [if_neg h]; simp [List.filter, Bool.eq_false_iff.2 h])
  have HFN := Lib.hid (show F l.length = witL l ml true by rw [hF, List.take_length]; rfl)
  have HFL := Lib.hid (show ∀ k, (F k).length ≤ k from fun k => by rw [hF]; exact Nat.le_trans (List.length_filter_le _ _) (by rw [List.length_take]; omega))
  obtain ⟨n, hn⟩ : ∃ n, l.length = n := ⟨_, rfl⟩
  obtain ⟨n2, hn2⟩ : ∃ n2, ml.length = n2 := ⟨_, rfl⟩
  have HN := Lib.hid hn
  have HN2 := Lib.hid hn2
  rw [hn] at HL hm HFN
  rw [hn2] at HML hm2 HFS
  clear hi hz0 hz1 hz2 hl hL hF hml hL2
  rw [hn, hn2]
  clear hn hn2
  obtain ⟨R, hR⟩ : ∃ R, witL l ml true = R := ⟨_, rfl⟩
  rw [hR] at HFN ⊢
  clear hR
  have HR0 := Lib.hid (OutRel.start w (fun b => (ok b ∧ b < w.heap.size) ∨ w.heap.size ≤ b))
  go_enter Tryz.func17, Tryz.ntmps17
  go_wp2_with fail
  go_loopw [7, 8] (fun ov iv wr => ∃ (k : Nat) (L : List QI), k ≤ n ∧ iv = .int .i64 k ∧ OutRel w (fun b => (ok b ∧ b < w.heap.size) ∨ w.heap.size ≤ b) (F k).length ov L (F k) wr) (fun _ iv _ => n - (intOf iv).toNat)
  case atStart => exact ⟨0, [], by omega, rfl, by rw [HF0.out]; exact HR0.out⟩
  case round =>
    obtain ⟨k, L, hk, rfl, hR⟩ := hrel
    obtain ⟨vo, vc, rfl⟩ := owns_form hR.1
    have HR := Lib.hid hR
    have HB := Lib.hid hR.2.2
    have HSW := Lib.hid hR.2.2.size
    have HOCN := Lib.hid (show Value.oneCell' (.slice none 0 0) = true from rfl)
    clear hR HR0
    by_cases hlt : k < n
    · obtain ⟨y, hy⟩ : ∃ y, l[k]? = some y := ⟨_, List.getElem?_eq_getElem (by rw [HN.out]; exact hlt)⟩
      have HY := Lib.hid hy
      have HOY := Lib.hid (HOL.out y (List.mem_of_getElem? hy))
      obtain ⟨lb, loff, lbo, lbc, rfl, _, d0, d1, d2, d3, hby⟩ := (HL.out.grow HB.out).at HY.out
      have HBY := Lib.hid hby
      have HMW := Lib.hid (HML.out.grow HB.out)
      have HD := Lib.hid (And.intro d0 (And.intro d1 (And.intro d2 d3)))
      obtain ⟨m, hmm⟩ : ∃ m, fndI ml y = m := ⟨_, rfl⟩
      have HMM := Lib.hid hmm
      obtain ⟨c, hc⟩ : ∃ c, (F k).length = c := ⟨_, rfl⟩
      have HC := Lib.hid hc
      have HCK := Lib.hid (show c ≤ k by rw [← hc]; exact HFL.out k)
      rw [hc] at HR ⊢
      clear hy hby hmm hc
      go_wp2_with fail
      refine (rfind19_calls d _ ml y _ _ _ HMW.out (by rw [HN2.out]; omega) HOM.out HOY.out HBY.out).mono ?_
      rintro e W2 ⟨rfl, hB2⟩
      rw [HMM.out]
      clear d0 d1 d2 d3
      have d0 := keep_below hB2 _ _ HD.out.1
      have d1 := keep_below hB2 _ _ HD.out.2.1
      have d2 := keep_below hB2 _ _ HD.out.2.2.1
      have d3 := keep_below hB2 _ _ HD.out.2.2.2
      have HB2 := Lib.hid hB2
      clear hB2
      by_cases hmk : m < n2
      · have HS := Lib.hid (show F (k + 1) = F k ++ [y] by rw [HFS.out k y HY.out, HMM.out, if_pos (by simp; omega)])
        have hq : (m : Int) < (n2 : Int) := by omega
        have HBX := Lib.hid (show IsB W2 (fun b => ((ok b ∧ b < w.heap.size) ∨ w.heap.size ≤ b) ∧ (Value.slice vo c vc).ownBlock ≠ some b) (.slice lbo y.2.2.2.length lbc) y.2.2.2 from (IsB.keep (Kept.below HB2.out) (fun _ _ h => h) HBY.out).wide (fun b _ h => ⟨Or.inl h, own_ne HR.out.1 h.2⟩))
        have HOC := Lib.hid (show Value.oneCell' (.slice lbo y.2.2.2.length lbc) = true from rfl)
        have HM1 : Hid (c + 1 ≤ maxLen) := Lib.hid (by have := HCK.out; unfold maxLen; omega)
        have HM2 : Hid ((c + 1) * 48 ≤ 140737488355328) := Lib.hid (by have := HCK.out; omega)
        obtain ⟨W4, hW4⟩ : ∃ W4, W4 = W2.alloc (.cells #[.int .i64 y.1, .float .f64 y.2.1, .int .i32 y.2.2.1, (.slice lbo y.2.2.2.length lbc)] 34) := ⟨_, rfl⟩
        have HB4 := Lib.hid (show Below wr.heap.size wr W4 by rw [hW4]; exact HB2.out.alloc HB2.out.size _)
        have HO4 := Lib.hid (show W4.ownsRow w.heap.size 34 4 (.slice vo c vc) c (flatI L) by rw [hW4]; exact (owns_below2 HR.out.1 HB2.out).alloc _)
        have HN4 := Lib.hid (show ∀ j u, (quadV (y.1, y.2.1, y.2.2.1, (.slice lbo y.2.2.2.length lbc)))[j]? = some u → W4.cell? ((⟨W2.heap.size, 0, none⟩ : Addr).add j) = some u by rw [hW4]; exact cell_four_new _ _ _ _ _ _)
        have HSZ := Lib.hid (show w.heap.size ≤ W4.heap.size from Nat.le_trans HSW.out HB4.out.size)
        have HON := Lib.hid (show ∀ u ∈ quadV (y.1, y.2.1, y.2.2.1, (.slice lbo y.2.2.2.length lbc)), u.oneCell' = true by intro u hu; simp only [quadV, List.mem_cons, List.not_mem_nil, or_false] at hu; rcases hu with rfl | rfl | rfl | rfl <;> first | rfl | exact HOC.out)
        have HBX4 := Lib.hid (show IsB W4 (fun b => ((ok b ∧ b < w.heap.size) ∨ w.heap.size ≤ b) ∧ (Value.slice vo c vc).ownBlock ≠ some b) ((.slice lbo y.2.2.2.length lbc)) y.2.2.2 by rw [hW4]; exact IsB.keep (Kept.below (below_new _ _)) (fun _ _ h => h) HBX.out)
        have hfold4 := hW4.symm
        clear hW4 hmk
        go_wp2_with (at_builtin; refine wpList_append_blk _ rfl _ _ 23 rfl w.heap.size 34 i0 _ 4 48 Tryz.underlying23 HI0.out.1 HI0.out.2.1 HI0.out.2.2.1 HI0.out.2.2.2 rfl (by decide) _ c (flatI L) rfl HO4.out ⟨W2.heap.size, 0, none⟩ 1 1 (quadV (y.1, y.2.1, y.2.2.1, (.slice lbo y.2.2.2.length lbc))) rfl rfl HN4.out HON.out HM1.out HM2.out HSZ.out ?_)
        intro v' w5 hown hgrow hblk
        obtain ⟨ao', cap', rfl⟩ := owns_form hown
        have HS5 := Lib.hid (HR.out.step (x := y) HB4.out HBX4.out hown hgrow hblk)
        clear hown hgrow hblk hfold4 d0 d1 d2 d3
        go_wp2_with fail
        go_roundw
        case rel =>
          refine ⟨k + 1, L ++ [(y.1, y.2.1, y.2.2.1, .slice lbo y.2.2.2.length lbc)], by omega, by go_num, ?_⟩
          rw [HS.out, List.length_append, HC.out]
          exact HS5.out
        case measure => simp [intOf]; omega
      · have HS := Lib.hid (show F (k + 1) = F k by rw [HFS.out k y HY.out, HMM.out, if_neg (by simp; omega), List.append_nil])
        have hq : (m < n2) = False := eq_false (by omega)
        have HR2 := Lib.hid (show OutRel w (fun b => (ok b ∧ b < w.heap.size) ∨ w.heap.size ≤ b) c (.slice vo c vc) L (F k) W2 from ⟨owns_below2 HR.out.1 HB2.out, HR.out.2.1.keep (Kept.below HB2.out) (fun _ _ h => h), HB.out.trans (HB2.out.mono HSW.out)⟩)
        clear hmk d0 d1 d2 d3
        go_wp2
        go_roundw
        case rel =>
          refine ⟨k + 1, L, by omega, by go_num, ?_⟩
          rw [HS.out, HC.out]
          exact HR2.out
        case measure => simp [intOf]; omega
    · have hkn : k = n := by omega
      have HFIN := Lib.hid (show Its wr (fun b => ((ok b ∧ b < w.heap.size) ∨ w.heap.size ≤ b) ∨ w.heap.size ≤ b) (.slice vo (F k).length vc) R from (show F k = R by rw [hkn]; exact HFN.out) ▸ HR.out.its)
      clear hkn
      go_wp2_with fail
      go_ret
      exact ⟨_, rfl, HFIN.out.wide (fun b _ h => h.elim id Or.inr), HB.out⟩
set_option maxHeartbeats 4000000 in
theorem rwithout19_false (d : Nat) {ok ok2 : Nat → Prop} (lv mv : Value) (l ml : List PI) (w : World) (hl : Its w ok lv l) (hm : l.length ≤ 100000) (hL : ∀ y ∈ l, okI d y) (hml : Its w ok2 mv ml) (hm2 : ml.length ≤ 1048576) (hL2 : ∀ y ∈ ml, okI d y) :
    Calls Tryz.prog 17 #[lv, mv, .bool false] w fun e w' => ∃ v, e = .returned v ∧ Its w' (fun b => (ok b ∧ b < w.heap.size) ∨ w.heap.size ≤ b) v (witL l ml false) ∧ Below w.heap.size w w' := by
  obtain ⟨i0, hi, hz0, hz1, hz2⟩ := info_parts info_item
  have HI0 := Lib.hid (And.intro hi (And.intro hz0 (And.intro hz1 hz2)))
  obtain ⟨ao, cap, rfl, _, _⟩ := hl.len
  obtain ⟨bo, bcap, rfl, _, _⟩ := hml.len
  have HL := Lib.hid hl.lt
  have HML := Lib.hid hml
  have HOL := Lib.hid hL
  have HOM := Lib.hid hL2
  obtain ⟨F, hF⟩ : ∃ F : Nat → List PI, ∀ k, F k = (l.take k).filter (fun x => decide (fndI ml x < ml.length) == false) := ⟨_, fun _ => rfl⟩
  have HF0 := Lib.hid (show F 0 = [] by rw [hF]; rfl)
  have HFS := Lib.hid (show ∀ k y, l[k]? = some y → F (k + 1) = F k ++ (if decide (fndI ml y < ml.length) == false then [y] else []) from fun k y hy => by
    rw [hF, hF, ptake hy, List.filter_append]
    congr 1
    by_cases h : (decide (fndI ml y < ml.length) == false) = true
    · rw [if_pos h]; simp [List.filter, h]
    · rw [if_neg h]; simp [List.filter, Bool.eq_false_iff.2 h])
  have HFN := Lib.hid (show F l.length = witL l ml false by rw [hF, List.take_length]; rfl)
  have HFL := Lib.hid (show ∀ k, (F k).length ≤ k from fun k => by rw [hF]; exact Nat.le_trans (List.length_filter_le _ _) (by rw [List.length_take]; omega))
  obtain ⟨n, hn⟩ : ∃ n, l.length = n := ⟨_, rfl⟩
  obtain ⟨n2, hn2⟩ : ∃ n2, ml.length = n2 := ⟨_, rfl⟩
  have HN := Lib.hid hn
  have HN2 := Lib.hid hn2
  rw [hn] at HL hm HFN
  rw [hn2] at HML hm2 HFS
  clear hi hz0 hz1 hz2 hl hL hF hml hL2
  rw [hn, hn2]
  clear hn hn2
  obtain ⟨R, hR⟩ : ∃ R, witL l ml false = R := ⟨_, rfl⟩
  rw [hR] at HFN ⊢
  clear hR
  have HR0 := Lib.hid (OutRel.start w (fun b => (ok b ∧ b < w.heap.size) ∨ w.heap.size ≤ b))
  go_enter Tryz.func17, Tryz.ntmps17
  go_wp2_with fail
  go_loopw [7, 8] (fun ov iv wr => ∃ (k : Nat) (L : List QI), k ≤ n ∧ iv = .int .i64 k ∧ OutRel w (fun b => (ok b ∧ b < w.heap.size) ∨ w.heap.size ≤ b) (F k).length ov L (F k) wr) (fun _ iv _ => n - (intOf iv).toNat)
  case atStart => exact ⟨0, [], by omega, rfl, by rw [HF0.out]; exact HR0.out⟩
  case round =>
    obtain ⟨k, L, hk, rfl, hR⟩ := hrel
    obtain ⟨vo, vc, rfl⟩ := owns_form hR.1
    have HR := Lib.hid hR
    have HB := Lib.hid hR.2.2
    have HSW := Lib.hid hR.2.2.size
    have HOCN := Lib.hid (show Value.oneCell' (.slice none 0 0) = true from rfl)
    clear hR HR0
    by_cases hlt : k < n
    · obtain ⟨y, hy⟩ : ∃ y, l[k]? = some y := ⟨_, List.getElem?_eq_getElem (by rw [HN.out]; exact hlt)⟩
      have HY := Lib.hid hy
      have HOY := Lib.hid (HOL.out y (List.mem_of_getElem? hy))
      obtain ⟨lb, loff, lbo, lbc, rfl, _, d0, d1, d2, d3, hby⟩ := (HL.out.grow HB.out).at HY.out
      have HBY := Lib.hid hby
      have HMW := Lib.hid (HML.out.grow HB.out)
      have HD := Lib.hid (And.intro d0 (And.intro d1 (And.intro d2 d3)))
      obtain ⟨m, hmm⟩ : ∃ m, fndI ml y = m := ⟨_, rfl⟩
      have HMM := Lib.hid hmm
      obtain ⟨c, hc⟩ : ∃ c, (F k).length = c := ⟨_, rfl⟩
      have HC := Lib.hid hc
      have HCK := Lib.hid (show c ≤ k by rw [← hc]; exact HFL.out k)
      rw [hc] at HR ⊢
      clear hy hby hmm hc
      go_wp2_with fail
      refine (rfind19_calls d _ ml y _ _ _ HMW.out (by rw [HN2.out]; omega) HOM.out HOY.out HBY.out).mono ?_
      rintro e W2 ⟨rfl, hB2⟩
      rw [HMM.out]
      clear d0 d1 d2 d3
      have d0 := keep_below hB2 _ _ HD.out.1
      have d1 := keep_below hB2 _ _ HD.out.2.1
      have d2 := keep_below hB2 _ _ HD.out.2.2.1
      have d3 := keep_below hB2 _ _ HD.out.2.2.2
      have HB2 := Lib.hid hB2
      clear hB2
      by_cases hmk : m ≥ n2
      · have HS := Lib.hid (show F (k + 1) = F k ++ [y] by rw [HFS.out k y HY.out, HMM.out, if_pos (by simp; omega)])
        have hq : (m < n2) = False := eq_false (by omega)
        have HBX := Lib.hid (show IsB W2 (fun b => ((ok b ∧ b < w.heap.size) ∨ w.heap.size ≤ b) ∧ (Value.slice vo c vc).ownBlock ≠ some b) (.slice lbo y.2.2.2.length lbc) y.2.2.2 from (IsB.keep (Kept.below HB2.out) (fun _ _ h => h) HBY.out).wide (fun b _ h => ⟨Or.inl h, own_ne HR.out.1 h.2⟩))
        have HOC := Lib.hid (show Value.oneCell' (.slice lbo y.2.2.2.length lbc) = true from rfl)
        have HM1 : Hid (c + 1 ≤ maxLen) := Lib.hid (by have := HCK.out; unfold maxLen; omega)
        have HM2 : Hid ((c + 1) * 48 ≤ 140737488355328) := Lib.hid (by have := HCK.out; omega)
        obtain ⟨W4, hW4⟩ : ∃ W4, W4 = W2.alloc (.cells #[.int .i64 y.1, .float .f64 y.2.1, .int .i32 y.2.2.1, (.slice lbo y.2.2.2.length lbc)] 34) := ⟨_, rfl⟩
        have HB4 := Lib.hid (show Below wr.heap.size wr W4 by rw [hW4]; exact HB2.out.alloc HB2.out.size _)
        have HO4 := Lib.hid (show W4.ownsRow w.heap.size 34 4 (.slice vo c vc) c (flatI L) by rw [hW4]; exact (owns_below2 HR.out.1 HB2.out).alloc _)
        have HN4 := Lib.hid (show ∀ j u, (quadV (y.1, y.2.1, y.2.2.1, (.slice lbo y.2.2.2.length lbc)))[j]? = some u → W4.cell? ((⟨W2.heap.size, 0, none⟩ : Addr).add j) = some u by rw [hW4]; exact cell_four_new _ _ _ _ _ _)
        have HSZ := Lib.hid (show w.heap.size ≤ W4.heap.size from Nat.le_trans HSW.out HB4.out.size)
        have HON := Lib.hid (show ∀ u ∈ quadV (y.1, y.2.1, y.2.2.1, (.slice lbo y.2.2.2.length lbc)), u.oneCell' = true by intro u hu; simp only [quadV, List.mem_cons, List.not_mem_nil, or_false] at hu; rcases hu with rfl | rfl | rfl | rfl <;> first | rfl | exact HOC.out)
        have HBX4 := Lib.hid (show IsB W4 (fun b => ((ok b ∧ b < w.heap.size) ∨ w.heap.size ≤ b) ∧ (Value.slice vo c vc).ownBlock ≠ some b) ((.slice lbo y.2.2.2.length lbc)) y.2.2.2 by rw [hW4]; exact IsB.keep (Kept.below (below_new _ _)) (fun _ _ h => h) HBX.out)
        have hfold4 := hW4.symm
        clear hW4 hmk
        go_wp2_with (at_builtin; refine wpList_append_blk _ rfl _ _ 23 rfl w.heap.size 34 i0 _ 4 48 Tryz.underlying23 HI0.out.1 HI0.out.2.1 HI0.out.2.2.1 HI0.out.2.2.2 rfl (by decide) _ c (flatI L) rfl HO4.out ⟨W2.heap.size, 0, none⟩ 1 1 (quadV (y.1, y.2.1, y.2.2.1, (.slice lbo y.2.2.2.length lbc))) rfl rfl HN4.out HON.out HM1.out HM2.out HSZ.out ?_)
        intro v' w5 hown hgrow hblk
        obtain ⟨ao', cap', rfl⟩ := owns_form hown
        have HS5 := Lib.hid (HR.out.step (x := y) HB4.out HBX4.out hown hgrow hblk)
        clear hown hgrow hblk hfold4 d0 d1 d2 d3
        go_wp2_with fail
        go_roundw
        case rel =>
          refine ⟨k + 1, L ++ [(y.1, y.2.1, y.2.2.1, .slice lbo y.2.2.2.length lbc)], by omega, by go_num, ?_⟩
          rw [HS.out, List.length_append, HC.out]
          exact HS5.out
        case measure => simp [intOf]; omega
      · have HS := Lib.hid (show F (k + 1) = F k by rw [HFS.out k y HY.out, HMM.out, if_neg (by simp; omega), List.append_nil])
        have hq : (m : Int) < (n2 : Int) := by omega
        have HR2 := Lib.hid (show OutRel w (fun b => (ok b ∧ b < w.heap.size) ∨ w.heap.size ≤ b) c (.slice vo c vc) L (F k) W2 from ⟨owns_below2 HR.out.1 HB2.out, HR.out.2.1.keep (Kept.below HB2.out) (fun _ _ h => h), HB.out.trans (HB2.out.mono HSW.out)⟩)
        clear hmk d0 d1 d2 d3
        go_wp2
        go_roundw
        case rel =>
          refine ⟨k + 1, L, by omega, by go_num, ?_⟩
          rw [HS.out, HC.out]
          exact HR2.out
        case measure => simp [intOf]; omega
    · have hkn : k = n := by omega
      have HFIN := Lib.hid (show Its wr (fun b => ((ok b ∧ b < w.heap.size) ∨ w.heap.size ≤ b) ∨ w.heap.size ≤ b) (.slice vo (F k).length vc) R from (show F k = R by rw [hkn]; exact HFN.out) ▸ HR.out.its)
      clear hkn
      go_wp2_with fail
      go_ret
      exact ⟨_, rfl, HFIN.out.wide (fun b _ h => h.elim id Or.inr), HB.out⟩
end Go.Proofs.YtbdhibcbpgjbmaaGreatDoor

/- Layer 19's laws, plain: what good plain arrays hold. -/
namespace Go.Proofs.YtbdhibcbpgjbmaaGreatDoor
set_option maxRecDepth 100000
open Go.RowKit Fl
set_option linter.unusedVariables false

theorem fld_its19 (x y z : Value) (w : World) : (Instr.field 25 (.agg #[x, y, z]) 1).run Tryz.prog w = .ok y w := by kernel_rfl
theorem text_none19b {A : VV} (h : A.cls ≠ 1) : A.text = [] := by cases A <;> first | rfl | exact absurd rfl h
theorem text_arr19 {p : PA} (h : chk 40 p = 0) (hc : chO p) : ∀ z ∈ (arrP 40 p).2.text, -2147483648 ≤ z ∧ z ≤ 2147483647 := by
  intro z hz
  by_cases h1 : p.f = 1
  · have e : (arrP 40 p).2.text = p.l.map (fun x => x.2.2.1) := by
      simp only [arrP]; rw [if_pos h1]; rfl
    rw [e] at hz
    obtain ⟨x, hx, rfl⟩ := List.mem_map.1 hz
    exact hc x hx
  · rw [text_none19b (by rw [(arrP_len h).2.1]; exact h1)] at hz
    cases hz
theorem info_int_ex : ∃ i0, Tryz.prog.info? 3 = some i0 ∧ i0.zero = some (.int .i64 0) ∧ i0.size = 1 ∧ i0.bytes = 8 := info_parts info_int
theorem info_bool_ex : ∃ i0, Tryz.prog.info? 4 = some i0 ∧ i0.zero = some (.bool false) ∧ i0.size = 1 ∧ i0.bytes = 1 := info_parts info_bool1
theorem bools_eq19 {ok ok2 : Nat → Prop} (v1 v2 : Value) (l : List Bool) (n : Nat) (w : World) (h1 : Slc w ok v1 n (bools l)) (h2 : Slc w ok2 v2 n (bools l)) (hn : l.length = n) (hm : n ≤ 2000000) :
    Calls Tryz.prog 13 #[v1, v2] w fun e w' => e = .returned (.bool true) ∧ Below w.heap.size w w' := by
  subst hn
  have e : (l == l) = true := by simp
  rw [← e]
  exact bools_calls v1 v2 l l w h1.1.sl h2.1.sl (by unfold maxLen; omega)
/-- What a good plain array holds. -/
structure Hold (p : PA) (A : VV) (n : Nat) (f : Int) : Prop where
  hg : hG A
  cls : A.cls = f
  len : A.len = n
  its : itsA 39 A = (tidyP 40 p).l
  tl : (tidyP 40 p).l.length = n
  ok : ∀ y ∈ (tidyP 40 p).l, okI 39 y
theorem hold_of {p : PA} (h : chk 40 p = 0) (hc : chO p) : Hold p (arrP 40 p).2 p.l.length p.f := by
  obtain ⟨v1, v2, v3, v4, v5, v6⟩ := good_vec h
  exact ⟨⟨gA_gV (d := 39) (arrP_good 40 p h), text_arr19 h hc⟩, v1, v2, its_arrP (d := 39) h, v6, nice_tidy 40 p h⟩
end Go.Proofs.YtbdhibcbpgjbmaaGreatDoor

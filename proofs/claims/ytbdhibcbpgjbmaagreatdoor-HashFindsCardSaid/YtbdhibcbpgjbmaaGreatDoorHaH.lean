/- Layer 19's laws: awake. -/
import Derived.Test.YtbdhibcbpgjbmaaGreatDoorHaZ
import Derived.Test.YtbdhibcbpgjbmaaGreatDoorHaO
import Derived.Test.YtbdhibcbpgjbmaaGreatDoorPiC
import Derived.Test.YtbdhibcbpgjbmaaGreatDoorVeN
import Derived.Test.YtbdhibcbpgjbmaaGreatDoorFmC
import Derived.Test.YtbdhibcbpgjbmaaGreatDoorArM
namespace Go.Proofs.YtbdhibcbpgjbmaaGreatDoor
set_option maxRecDepth 100000
open Go.RowKit Fl
set_option linter.unusedVariables false

def Yes19 (w : World) (e : Ending) (w' : World) : Prop := e = .returned (.bool true) ∧ Below w.heap.size w w'
theorem aw19_num : ∀ x ∈ ([4617315517961601024, 4618441417868443648, 4617315517961601024] : List Nat), Num x := by
 intro x hx
 simp only [List.mem_cons, List.not_mem_nil, or_false] at hx
 rcases hx with rfl | rfl | rfl <;> exact ⟨⟨by decide, by decide⟩, by decide +kernel⟩
theorem aw19_num2 : ∀ x ∈ ([4617315517961601024, 4619567317775286272] : List Nat), Num x := by
 intro x hx
 simp only [List.mem_cons, List.not_mem_nil, or_false] at hx
 rcases hx with rfl | rfl <;> exact ⟨⟨by decide, by decide⟩, by decide +kernel⟩
theorem aw19_ze : ([4617315517961601024, 4618441417868443648, 4617315517961601024] : List Nat).map ze = [4617315517961601024, 4618441417868443648, 4617315517961601024] := map_ze aw19_num
theorem aw19_ze2 : ([4617315517961601024, 4619567317775286272] : List Nat).map ze = [4617315517961601024, 4619567317775286272] := map_ze aw19_num2
noncomputable def aw19A : VV := (VV.floats [4617315517961601024, 4618441417868443648, 4617315517961601024]).sq
noncomputable def aw19B : VV := (VV.floats [4617315517961601024, 4619567317775286272]).sq
theorem boxs_none19 {A : VV} (h : A.cls < 2) : A.boxs = [] := by cases A <;> first | rfl | (simp [VV.cls] at h)
theorem text_none19 {A : VV} (h : A.cls = 0) : A.text = [] := by cases A <;> first | rfl | (simp [VV.cls] at h)
/-- What numbers make is a vector that the laws hand in. -/
theorem sqL_hG {l : List Nat} (hl : l.length ≤ 1048576) (hN : ∀ x ∈ l, Num x) : hG (sqL l) ∧ (sqL l).len = l.length ∧ (sqL l).cls = 0 ∧ itsA 39 (sqL l) = l.map fun x => (0, x, 0, []) := by
 obtain ⟨h1, h2, h3, h4, h5, h6, h7⟩ := sqL_spec hl hN
 refine ⟨⟨⟨h2, h3, h6, fun a ha => ?_⟩, fun z hz => ?_⟩, h7, h4, ?_⟩
 ·rw [boxs_none19 (by omega)] at ha; cases ha
 ·rw [text_none19 h4] at hz; cases hz
 ·rw [its_num h4, h1]
theorem aw19_A : hG aw19A ∧ aw19A.len = 3 ∧ aw19A.cls = 0 ∧ itsA 39 aw19A = [(0, 4617315517961601024, 0, []), (0, 4618441417868443648, 0, []), (0, 4617315517961601024, 0, [])] := sqL_hG (by decide) aw19_num
theorem aw19_B : hG aw19B ∧ aw19B.len = 2 ∧ aw19B.cls = 0 ∧ itsA 39 aw19B = [(0, 4617315517961601024, 0, []), (0, 4619567317775286272, 0, [])] := sqL_hG (by decide) aw19_num2
theorem iq_words {x y : Nat} (h : x ≠ y) : iq ((0, x, 0, []) : PI) (0, y, 0, []) = false := iq_no (fun e => h (congrArg (fun z : PI => z.2.1) e))
theorem aw19_f5 : fndI [(0, 4617315517961601024, 0, []), (0, 4618441417868443648, 0, []), (0, 4617315517961601024, 0, [])] (0, 4617315517961601024, 0, []) = 0 := fndI_hit (k := 0) (by decide) (iq_yes rfl) (fun j hj => absurd hj (by omega))
theorem aw19_f6 : fndI [(0, 4617315517961601024, 0, []), (0, 4618441417868443648, 0, []), (0, 4617315517961601024, 0, [])] (0, 4618441417868443648, 0, []) = 1 := fndI_hit (k := 1) (by decide) (iq_yes rfl) (fun j hj => by
 match j, hj with
 | 0, _ => exact iq_words (by decide))
theorem aw19_f7 : fndI [(0, 4617315517961601024, 0, []), (0, 4618441417868443648, 0, []), (0, 4617315517961601024, 0, [])] (0, 4619567317775286272, 0, []) = 3 := fndI_none (l := [(0, 4617315517961601024, 0, []), (0, 4618441417868443648, 0, []), (0, 4617315517961601024, 0, [])]) (fun j hj => by
 match j, hj with
 | 0, _ => exact iq_words (by decide)
 | 1, _ => exact iq_words (by decide)
 | 2, _ => exact iq_words (by decide)
 | j + 3, h => exact absurd (show j + 3 < 3 from h) (by omega))
theorem aw19_find : (itsA 39 aw19B).map (fndI (itsA 39 aw19A)) = [0, 3] := by
 rw [aw19_A.2.2.2, aw19_B.2.2.2, List.map_cons, List.map_cons, List.map_nil, aw19_f5, aw19_f7]
theorem aw19_frs : frsL (itsA 39 aw19A) = [0, 1] := by
 rw [aw19_A.2.2.2]
 unfold frsL
 have e : List.range ([(0, 4617315517961601024, 0, []), (0, 4618441417868443648, 0, []), (0, 4617315517961601024, 0, [])] : List PI).length = [0, 1, 2] := by decide
 rw [e]
 have a0 : atI ([(0, 4617315517961601024, 0, []), (0, 4618441417868443648, 0, []), (0, 4617315517961601024, 0, [])] : List PI) (blankI 0) ((0 : Nat) : Int) = (0, 4617315517961601024, 0, []) := rfl
 have a1 : atI ([(0, 4617315517961601024, 0, []), (0, 4618441417868443648, 0, []), (0, 4617315517961601024, 0, [])] : List PI) (blankI 0) ((1 : Nat) : Int) = (0, 4618441417868443648, 0, []) := rfl
 have a2 : atI ([(0, 4617315517961601024, 0, []), (0, 4618441417868443648, 0, []), (0, 4617315517961601024, 0, [])] : List PI) (blankI 0) ((2 : Nat) : Int) = (0, 4617315517961601024, 0, []) := rfl
 rw [List.filter_cons, a0, aw19_f5, if_pos (by decide), List.filter_cons, a1, aw19_f6, if_pos (by decide), List.filter_cons, a2, aw19_f5, if_neg (by decide), List.filter_nil]
theorem aw19_sel : gV 39 (aw19A.sel [0, 1]) ∧ (aw19A.sel [0, 1]).cls = 0 ∧ itsA 39 (aw19A.sel [0, 1]) = [(0, 4617315517961601024, 0, []), (0, 4618441417868443648, 0, [])] := by
 obtain ⟨h1, h2, h3, h4⟩ := aw19_A
 refine ⟨gV_sel (d := 38) h1.1 (by decide), ?_, ?_⟩
 ·rw [VV.sel_cls _ _ (VV.nums_num h1.1.1 h1.1.2.1) (by decide)]; exact h3
 ·rw [its_sel (d := 38) h1.1 (by decide), h4]; rfl
theorem hfind19 {ok ok2 : Nat → Prop} (u u2 : Value) (w : World) (h : IsV w ok u aw19A) (h2 : IsV w ok2 u2 aw19B) (hT : TabAt w) :
  Calls Tryz.prog 12 #[.agg #[u], .agg #[u2]] w fun e w' => ∃ v, e = .returned v ∧ Slc w' (fun _ => True) v 2 (ints [0, 3]) ∧ Below w.heap.size w w' := by
 refine (hfind_calls u u2 aw19A aw19B w h aw19_A.1 h2 aw19_B.1 hT).mono ?_
 rintro e w' ⟨v, h1, h2, h3⟩
 rw [aw19_find, aw19_B.2.1] at h2
 exact ⟨v, h1, h2.any, h3⟩
theorem hunique19 {ok : Nat → Prop} (u : Value) (w : World) (h : IsV w ok u aw19A) (hT : TabAt w) :
  Calls Tryz.prog 20 #[.agg #[u]] w fun e w' => ∃ u', e = .returned (.agg #[u']) ∧ IsV w' (fun _ => True) u' (aw19A.sel [0, 1]) ∧ Below w.heap.size w w' := by
 refine (hunique_calls u aw19A w h aw19_A.1 hT).mono ?_
 rintro e w' ⟨v, h1, h2, h3⟩
 rw [aw19_frs] at h2
 exact ⟨v, h1, IsV.any h2, h3⟩
set_option maxHeartbeats 8000000 in
theorem awake19_calls (w : World) (hT : TabAt w) : Calls Tryz.prog 7 #[] w (Yes19 w) := by
 obtain ⟨W1, hW1⟩ : ∃ W1, W1 = w.alloc (.cells #[.float .f64 4617315517961601024, .float .f64 4618441417868443648, .float .f64 4617315517961601024] 31) := ⟨_, rfl⟩
 have HB := Lib.hid (show Below w.heap.size w W1 by rw [hW1]; exact below_new _ _)
 have HL := Lib.hid (show Slc W1 (fun _ => True) (.slice (some ⟨w.heap.size, 0, none⟩) 3 3) [4617315517961601024, 4618441417868443648, 4617315517961601024].length (f64s [4617315517961601024, 4618441417868443648, 4617315517961601024]) by
  rw [hW1]; exact (Slc.owned (World.ownsRow_lit (base := 0) (e := 31) (size := 1) w #[.float .f64 4617315517961601024, .float .f64 4618441417868443648, .float .f64 4617315517961601024] 3 (Nat.zero_le _) (by unfold maxLen; omega) rfl)).keep (Kept.refl _ _) (fun _ _ _ => trivial))
 have HT := Lib.hid (show TabAt W1 from fun j hj => keep_below HB.out _ _ (hT j hj))
 have hfold := hW1.symm
 clear hW1 hT
 go_enter Tryz.func7, Tryz.ntmps7
 go_wp2_with fail
 clear hfold
 refine (numbers_yes _ [4617315517961601024, 4618441417868443648, 4617315517961601024] _ HL.out (by decide) (fun x hx => (aw19_num x hx).1) HT.out).mono ?_
 rintro e W11 ⟨u, rfl, hu, hB⟩
 replace HB := cb hB HB; replace HT := HT.go hB; replace HL := HL.go hB
 rw [aw19_ze] at hu
 have HU := Lib.hid (show IsV W11 (fun _ => True) u aw19A from IsV.any hu)
 have hsu := HU.out.store; clear hu; clear hB; clear HL
 obtain ⟨W12, hWn, hB, hNB⟩ := ahd1 W11 (u) 36
 replace HB := cb hB HB; replace HT := HT.go hB; replace HU := HU.go hB; have HA := Lib.hid hNB; clear hNB hB; have cHA0 := HA.out.2.1
 go_wp2_with fail
 clear hWn
 obtain ⟨W13, hWn⟩ : ∃ xw9, W12.alloc (.cells #[.float .f64 4617315517961601024, .float .f64 4619567317775286272] 31) = xw9 := ⟨_, rfl⟩
 have hB : Below W12.heap.size W12 W13 := by rw [← hWn]; exact below_new _ _
 have hNB : Slc W13 (fun _ => True) (.slice (some ⟨W12.heap.size, 0, none⟩) 2 2) 2 (f64s [4617315517961601024, 4619567317775286272]) := by
  rw [← hWn]; exact (Slc.owned (World.ownsRow_lit (base := 0) (e := 31) (size := 1) W12 #[.float .f64 4617315517961601024, .float .f64 4619567317775286272] 2 (Nat.zero_le _) (by unfold maxLen; omega) rfl)).keep (Kept.refl _ _) (fun _ _ _ => trivial)
 rw [hWn]; clear hWn; clear cHA0; replace HB := cb hB HB; replace HT := HT.go hB; replace HU := HU.go hB; replace HA := HA.go hB; have HL2 := Lib.hid hNB; clear hNB hB
 refine (numbers_yes _ [4617315517961601024, 4619567317775286272] _ HL2.out (by decide) (fun x hx => (aw19_num2 x hx).1) HT.out).mono ?_
 rintro e W14 ⟨u2, rfl, hu2, hB⟩
 replace HB := cb hB HB; replace HT := HT.go hB; replace HU := HU.go hB; replace HA := HA.go hB; replace HL2 := HL2.go hB
 rw [aw19_ze2] at hu2
 have HU2 := Lib.hid (show IsV W14 (fun _ => True) u2 aw19B from IsV.any hu2)
 have hsu2 := HU2.out.store; clear hu2; clear hB
 obtain ⟨W15, hWn, hB, hNB⟩ := ahd1 W14 (u2) 36
 replace HB := cb hB HB; replace HT := HT.go hB; replace HU := HU.go hB; replace HA := HA.go hB; replace HL2 := HL2.go hB; replace HU2 := HU2.go hB; have HA2 := Lib.hid hNB; clear hNB hB; have cHA0 := HA.out.2.1; have cHA20 := HA2.out.2.1
 go_wp2_with fail
 clear hWn
 refine (hfind19 _ _ _ HU.out HU2.out HT.out).mono ?_
 rintro e W16 ⟨vf, rfl, hvf, hB⟩
 clear cHA0 cHA20; replace HB := cb hB HB; replace HT := HT.go hB; replace HU := HU.go hB; replace HA := HA.go hB; replace HL2 := HL2.go hB; replace HU2 := HU2.go hB; replace HA2 := HA2.go hB; have HVF := Lib.hid hvf
 obtain ⟨af, cf, rfl, _⟩ := hvf.opened
 clear hvf; clear hB; have cHA0 := HA.out.2.1; have cHA20 := HA2.out.2.1
 go_wp2_with fail
 obtain ⟨W17, hWn⟩ : ∃ xw9, W16.alloc (.cells #[.int .i64 0, .int .i64 3] 3) = xw9 := ⟨_, rfl⟩
 have hB : Below W16.heap.size W16 W17 := by rw [← hWn]; exact below_new _ _
 have hNB : Slc W17 (fun _ => True) (.slice (some ⟨W16.heap.size, 0, none⟩) 2 2) 2 (ints [0, 3]) := by
  rw [← hWn]; exact (Slc.owned (World.ownsRow_lit (base := 0) (e := 3) (size := 1) W16 #[.int .i64 0, .int .i64 3] 2 (Nat.zero_le _) (by unfold maxLen; omega) rfl)).keep (Kept.refl _ _) (fun _ _ _ => trivial)
 rw [hWn]; clear hWn; clear cHA0 cHA20; replace HB := cb hB HB; replace HT := HT.go hB; replace HU := HU.go hB; replace HA := HA.go hB; replace HL2 := HL2.go hB; replace HU2 := HU2.go hB; replace HA2 := HA2.go hB; replace HVF := HVF.go hB; have HL3 := Lib.hid hNB; clear hNB hB
 refine (ints_eq _ _ [0, 3] 2 _ HVF.out HL3.out rfl (by decide)).mono ?_
 rintro e W18 ⟨rfl, hB⟩
 replace HB := cb hB HB; replace HT := HT.go hB; replace HU := HU.go hB; replace HA := HA.go hB; replace HL2 := HL2.go hB; replace HU2 := HU2.go hB; replace HA2 := HA2.go hB; replace HVF := HVF.go hB; replace HL3 := HL3.go hB; clear hB; have cHA0 := HA.out.2.1; have cHA20 := HA2.out.2.1
 go_wp2_with fail
 refine (hunique19 _ _ HU.out HT.out).mono ?_
 rintro e W19 ⟨uq, rfl, huq, hB⟩
 clear cHA0 cHA20; replace HB := cb hB HB; replace HT := HT.go hB; replace HU := HU.go hB; replace HA := HA.go hB; replace HL2 := HL2.go hB; replace HU2 := HU2.go hB; replace HA2 := HA2.go hB; replace HVF := HVF.go hB; replace HL3 := HL3.go hB; have HUQ := Lib.hid huq; clear huq; clear hB; have cHA0 := HA.out.2.1; have cHA20 := HA2.out.2.1
 go_wp2_with fail
 obtain ⟨W20, hWn⟩ : ∃ xw9, W19.alloc (.cells #[.int .i64 0, .float .f64 4617315517961601024, .int .i32 0, .slice none 0 0, .int .i64 0, .float .f64 4618441417868443648, .int .i32 0, .slice none 0 0] 34) = xw9 := ⟨_, rfl⟩
 have hB : Below W19.heap.size W19 W20 := by rw [← hWn]; exact below_new _ _
 have hNB : Its W20 (fun _ => True) (.slice (some ⟨W19.heap.size, 0, none⟩) 2 2) [(0, 4617315517961601024, 0, []), (0, 4618441417868443648, 0, [])] := by
  rw [← hWn]
  refine (Its.of_own (ok := fun _ => True) (base := 0) (L := [(0, 4617315517961601024, 0, .slice none 0 0), (0, 4618441417868443648, 0, .slice none 0 0)]) (World.ownsRow_lit (base := 0) (e := 34) (size := 4) W19 #[.int .i64 0, .float .f64 4617315517961601024, .int .i32 0, .slice none 0 0, .int .i64 0, .float .f64 4618441417868443648, .int .i32 0, .slice none 0 0] 2 (Nat.zero_le _) (by unfold maxLen; omega) rfl) ?_).wide (fun _ _ _ => trivial)
  exact ((Quad.nil _ _).snoc (x := (0, 4617315517961601024, 0, [])) (IsB.nil _ _)).snoc (x := (0, 4618441417868443648, 0, [])) (IsB.nil _ _)
 rw [hWn]; clear hWn; clear cHA0 cHA20; replace HB := cb hB HB; replace HT := HT.go hB; replace HU := HU.go hB; replace HA := HA.go hB; replace HL2 := HL2.go hB; replace HU2 := HU2.go hB; replace HA2 := HA2.go hB; replace HVF := HVF.go hB; replace HL3 := HL3.go hB; replace HUQ := HUQ.go hB; have HITS := Lib.hid hNB; clear hNB hB
 refine (shows19_calls _ (aw19A.sel [0, 1]) _ _ 0 _ HUQ.out aw19_sel.1 aw19_sel.2.1 HITS.out aw19_sel.2.2.symm HT.out).mono ?_
 rintro e W21 ⟨rfl, hB⟩
 replace HB := cb hB HB; replace HT := HT.go hB; replace HU := HU.go hB; replace HA := HA.go hB; replace HL2 := HL2.go hB; replace HU2 := HU2.go hB; replace HA2 := HA2.go hB; replace HVF := HVF.go hB; replace HL3 := HL3.go hB; replace HUQ := HUQ.go hB; replace HITS := HITS.go hB; clear hB; have cHA0 := HA.out.2.1; have cHA20 := HA2.out.2.1
 go_wp2_with fail
 go_ret
 exact ⟨rfl, HB.out⟩
end Go.Proofs.YtbdhibcbpgjbmaaGreatDoor

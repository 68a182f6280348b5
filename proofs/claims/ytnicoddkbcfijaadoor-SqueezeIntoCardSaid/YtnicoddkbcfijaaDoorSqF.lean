/- Layer 5: squeezed kinds; the law's awake. -/
import Derived.Test.YtnicoddkbcfijaaDoorSqE
namespace Go.Proofs.YtnicoddkbcfijaaDoor
open Go.RowKit Fl
set_option linter.unusedVariables false
set_option maxRecDepth 8000

theorem VV.least_eq {V : VV} (hok : V.ok) (hn : V.nm) (h : V.cls = 0) : V.least = leastW V.nums := by
  by_cases h1 : V.kind = 1
  · have a := VV.leastW_le hok hn h
    have b := VV.least_oth (.inl h1)
    have c := _root_.Go.Proofs.YtnicoddkbcfijaaDoor.leastW_le V.nums
    omega
  · exact VV.least_num h1 h
theorem VV.sq_kind {V : VV} (hok : V.ok) (hn : V.nm) (h : V.cls = 0) : V.sq.kind = (leastW V.nums : Int) := by
  rw [(VV.sq_spec hok hn).1, VV.least_eq hok hn h]
theorem VV.fit_eq {V : VV} (hok : V.ok) (hn : V.nm) (h : V.cls = 0) (h1 : (leastW V.nums : Int) ≤ V.kind) (h4 : V.kind ≤ 4) (k : Int) : V.fit k = (decide ((leastW V.nums : Int) ≤ k) && decide (k ≤ 4)) := by
  have hb := _root_.Go.Proofs.YtnicoddkbcfijaaDoor.leastW_le V.nums
  unfold VV.fit
  rw [VV.least_eq hok hn h, Bool.eq_iff_iff]
  simp only [Bool.or_eq_true, Bool.and_eq_true, decide_eq_true_eq]
  constructor
  · rintro (h | ⟨⟨h, h2⟩, h3⟩)
    · omega
    · omega
  · intro h5
    by_cases hk : V.kind = k
    · exact .inl hk
    · exact .inr ⟨⟨h, by omega⟩, h5.1⟩
theorem wh_ofInt {n : Int} {c : Nat} (h : n.natAbs ≤ 9007199254740992) (hc : floatOfInt .f64 n = c) : Wh c n := by
  subst hc; exact ⟨ofInt_fin n (by omega), h, ofInt_val n h⟩
theorem kindW_c {n : Int} {c : Nat} (h : n.natAbs ≤ 9007199254740992) (hc : floatOfInt .f64 n = c) : kindW c = kindZ n := kindW_wh (wh_ofInt h hc)
instance (x : Nat) : Decidable (Fnt x) := inferInstanceAs (Decidable (x < 18446744073709551616 ∧ x % 9223372036854775808 < 9218868437227405312))
theorem half_fin : Fnt 4602678819172646912 := by decide
theorem kindW_half : kindW 4602678819172646912 = 4 := by
  refine kindW_no (fun n hn => ?_)
  have h1 := wh_int _ _ hn
  have h2 : floatToIntVal .f64 4602678819172646912 .i64 = some 0 := by decide +kernel
  rw [h2] at h1
  have h3 : n = 0 := (Option.some.inj h1).symm
  subst h3
  have h4 := hn.2.2
  rw [Int.zero_mul] at h4
  exact absurd (V_eq_zero.1 h4) (by decide +kernel)
theorem awl0 : ([4607182418800017408, 0] : List Nat).map ze = [4607182418800017408, 0] := by decide +kernel
theorem awk0 : (VV.floats (([4607182418800017408, 0] : List Nat).map ze)).sq.kind = 1 := by
  have hf : ∀ x ∈ ([4607182418800017408, 0] : List Nat), Fnt x := by decide +kernel
  have hok : (VV.floats ([4607182418800017408, 0] : List Nat)).ok := by show ([4607182418800017408, 0] : List Nat).length ≤ 1048576; decide
  have hn : (VV.floats ([4607182418800017408, 0] : List Nat)).nm := by
    show ∀ x ∈ ([4607182418800017408, 0] : List Nat), Num x
    rw [← awl0]
    intro x hx
    obtain ⟨y, hy, rfl⟩ := List.mem_map.1 hx
    exact Fl.ze_num (hf y hy)
  rw [awl0, VV.sq_kind hok hn rfl]
  show ((leastW ([4607182418800017408, 0] : List Nat) : Nat) : Int) = 1
  simp only [leastW_cons, leastW_nil]
  rw [kindW_c (n := 1) (by decide) (by decide +kernel), kindW_c (n := 0) (by decide) (by decide +kernel)]; decide
theorem awl1 : ([4611686018427387904, 13837309855095848960] : List Nat).map ze = [4611686018427387904, 13837309855095848960] := by decide +kernel
theorem awk1 : (VV.floats (([4611686018427387904, 13837309855095848960] : List Nat).map ze)).sq.kind = 2 := by
  have hf : ∀ x ∈ ([4611686018427387904, 13837309855095848960] : List Nat), Fnt x := by decide +kernel
  have hok : (VV.floats ([4611686018427387904, 13837309855095848960] : List Nat)).ok := by show ([4611686018427387904, 13837309855095848960] : List Nat).length ≤ 1048576; decide
  have hn : (VV.floats ([4611686018427387904, 13837309855095848960] : List Nat)).nm := by
    show ∀ x ∈ ([4611686018427387904, 13837309855095848960] : List Nat), Num x
    rw [← awl1]
    intro x hx
    obtain ⟨y, hy, rfl⟩ := List.mem_map.1 hx
    exact Fl.ze_num (hf y hy)
  rw [awl1, VV.sq_kind hok hn rfl]
  show ((leastW ([4611686018427387904, 13837309855095848960] : List Nat) : Nat) : Int) = 2
  simp only [leastW_cons, leastW_nil]
  rw [kindW_c (n := 2) (by decide) (by decide +kernel), kindW_c (n := -3) (by decide) (by decide +kernel)]; decide
theorem awl2 : ([4641240890982006784] : List Nat).map ze = [4641240890982006784] := by decide +kernel
theorem awk2 : (VV.floats (([4641240890982006784] : List Nat).map ze)).sq.kind = 3 := by
  have hf : ∀ x ∈ ([4641240890982006784] : List Nat), Fnt x := by decide +kernel
  have hok : (VV.floats ([4641240890982006784] : List Nat)).ok := by show ([4641240890982006784] : List Nat).length ≤ 1048576; decide
  have hn : (VV.floats ([4641240890982006784] : List Nat)).nm := by
    show ∀ x ∈ ([4641240890982006784] : List Nat), Num x
    rw [← awl2]
    intro x hx
    obtain ⟨y, hy, rfl⟩ := List.mem_map.1 hx
    exact Fl.ze_num (hf y hy)
  rw [awl2, VV.sq_kind hok hn rfl]
  show ((leastW ([4641240890982006784] : List Nat) : Nat) : Int) = 3
  simp only [leastW_cons, leastW_nil]
  rw [kindW_c (n := 200) (by decide) (by decide +kernel)]; decide
theorem awl3 : ([4602678819172646912] : List Nat).map ze = [4602678819172646912] := by decide +kernel
theorem awk3 : (VV.floats (([4602678819172646912] : List Nat).map ze)).sq.kind = 4 := by
  have hf : ∀ x ∈ ([4602678819172646912] : List Nat), Fnt x := by decide +kernel
  have hok : (VV.floats ([4602678819172646912] : List Nat)).ok := by show ([4602678819172646912] : List Nat).length ≤ 1048576; decide
  have hn : (VV.floats ([4602678819172646912] : List Nat)).nm := by
    show ∀ x ∈ ([4602678819172646912] : List Nat), Num x
    rw [← awl3]
    intro x hx
    obtain ⟨y, hy, rfl⟩ := List.mem_map.1 hx
    exact Fl.ze_num (hf y hy)
  rw [awl3, VV.sq_kind hok hn rfl]
  show ((leastW ([4602678819172646912] : List Nat) : Nat) : Int) = 4
  simp only [leastW_cons, leastW_nil]
  rw [kindW_half]; decide

set_option maxHeartbeats 4000000 in
theorem awake5_calls (w : World) (hT : TabAt w) : Calls Tryd.prog 7 #[] w fun e w' => e = .returned (.bool true) ∧ Below w.heap.size w w' := by
  have HT := Lib.hid hT
  have HB := Lib.hid (Below.refl w.heap.size w)
  clear hT
  obtain ⟨ok0, hok0⟩ : ∃ o : Nat → Prop, o = fun b => w.heap.size ≤ b := ⟨_, rfl⟩
  have HOKP := Lib.hid (show ∀ b, ok0 b → w.heap.size ≤ b by rw [hok0]; exact fun b h => h)
  have HFR := Lib.hid (show ∀ b, w.heap.size ≤ b → ok0 b by rw [hok0]; exact fun b h => h)
  clear hok0
  obtain ⟨W1, hL0⟩ : ∃ X, (w.alloc (.cells #[.float .f64 4607182418800017408, .float .f64 0] 53)) = X := ⟨_, rfl⟩
  have hB : Below w.heap.size w W1 := by rw [← hL0]; exact below_new _ _
  have HL0 := Lib.hid (show Slc W1 (fun _ => True) (.slice (some ⟨w.heap.size, 0, none⟩) 2 2) 2 (f64s [4607182418800017408, 0]) by rw [← hL0]; exact (Slc.owned (World.ownsRow_lit (base := w.heap.size) (e := 53) (size := 1) w #[.float .f64 4607182418800017408, .float .f64 0] 2 (Nat.le_refl _) (by unfold maxLen; omega) rfl)).any)
  replace HT := Lib.hid (fun j hj => keep_below hB _ _ (HT.out j hj))
  replace HB := Lib.hid (HB.out.trans (hB.mono HB.out.size))
  replace HFR := Lib.hid (fun b h => HFR.out b (Nat.le_trans hB.size h))
  clear hB
  go_enter Tryd.func7, Tryd.ntmps7
  go_wp2_with fail
  clear hL0
  refine (numbers_yes _ [4607182418800017408, 0] _ HL0.out (by decide) (by decide +kernel) HT.out).mono ?_
  rintro e W2 ⟨x0, rfl, hu, hB⟩
  have stx0 := hu.store
  have shx0 := Lib.hid hu.shape
  have HX0 := Lib.hid (hu.nbw (ok' := ok0) (fun b _ h => HFR.out b h))
  clear hu
  replace HT := Lib.hid (fun j hj => keep_below hB _ _ (HT.out j hj))
  replace HL0 := Lib.hid (HL0.out.below hB)
  replace HB := Lib.hid (HB.out.trans (hB.mono HB.out.size))
  replace HFR := Lib.hid (fun b h => HFR.out b (Nat.le_trans hB.size h))
  clear hB
  clear HL0
  obtain ⟨W3, hWn⟩ : ∃ X, (W2.alloc (.cells #[x0] 27)) = X := ⟨_, rfl⟩
  have hB : Below W2.heap.size W2 W3 := by rw [← hWn]; exact below_new _ _
  have hla : W2.heap.size ≤ W2.heap.size := by omega
  have hlb : W2.heap.size < W3.heap.size := by rw [← hWn]; simp; try omega
  have HA0 := Lib.hid (show At1 W3 W2.heap.size (x0) by rw [← hWn]; exact At1.new _ (x0) 27)
  have GEHA0 := Lib.hid (show w.heap.size ≤ W2.heap.size from Nat.le_trans HB.out.size hla)
  obtain ⟨ok1, o1, o2, o3, o4⟩ := ok_step ok0 W2.heap.size W2.heap.size W3.heap.size HFR.out hla hlb
  replace HOKP := Lib.hid (fun b h => HOKP.out b (o1 b h))
  replace HFR := Lib.hid o3
  replace HT := Lib.hid (fun j hj => keep_below hB _ _ (HT.out j hj))
  replace HX0 := Lib.hid ((HX0.out.nbw (fun b hb h => o2 b hb h)).grow hB)
  replace HB := Lib.hid (HB.out.trans (hB.mono HB.out.size))
  have NOHA0 := Lib.hid o4
  clear o1 o2 o3 o4
  clear hla hlb hB
  have IOHA0 : Hid (IsIface (x0)) := Lib.hid (shx0.out)
  have cHA0 := HA0.out.2.1
  
  have hE0 := hWn
  clear hWn
  obtain ⟨W4, hL1⟩ : ∃ X, (W3.alloc (.cells #[.float .f64 4611686018427387904, .float .f64 13837309855095848960] 53)) = X := ⟨_, rfl⟩
  have hB : Below W3.heap.size W3 W4 := by rw [← hL1]; exact below_new _ _
  have HL1 := Lib.hid (show Slc W4 (fun _ => True) (.slice (some ⟨W3.heap.size, 0, none⟩) 2 2) 2 (f64s [4611686018427387904, 13837309855095848960]) by rw [← hL1]; exact (Slc.owned (World.ownsRow_lit (base := W3.heap.size) (e := 53) (size := 1) W3 #[.float .f64 4611686018427387904, .float .f64 13837309855095848960] 2 (Nat.le_refl _) (by unfold maxLen; omega) rfl)).any)
  clear cHA0
  replace HT := Lib.hid (fun j hj => keep_below hB _ _ (HT.out j hj))
  replace HX0 := Lib.hid (HX0.out.grow hB)
  replace HA0 := Lib.hid (HA0.out.below hB)
  replace HB := Lib.hid (HB.out.trans (hB.mono HB.out.size))
  replace HFR := Lib.hid (fun b h => HFR.out b (Nat.le_trans hB.size h))
  clear hB
  have cHA0 := HA0.out.2.1
  go_wp2_with fail
  clear hL1 hE0
  refine (numbers_yes _ [4611686018427387904, 13837309855095848960] _ HL1.out (by decide) (by decide +kernel) HT.out).mono ?_
  clear cHA0
  rintro e W5 ⟨x1, rfl, hu, hB⟩
  have stx1 := hu.store
  have shx1 := Lib.hid hu.shape
  have HX1 := Lib.hid (hu.nbw (ok' := ok1) (fun b _ h => HFR.out b h))
  clear hu
  replace HT := Lib.hid (fun j hj => keep_below hB _ _ (HT.out j hj))
  replace HX0 := Lib.hid (HX0.out.grow hB)
  replace HA0 := Lib.hid (HA0.out.below hB)
  replace HL1 := Lib.hid (HL1.out.below hB)
  replace HB := Lib.hid (HB.out.trans (hB.mono HB.out.size))
  replace HFR := Lib.hid (fun b h => HFR.out b (Nat.le_trans hB.size h))
  clear hB
  have cHA0 := HA0.out.2.1
  clear HL1
  obtain ⟨W6, hWn⟩ : ∃ X, (W5.alloc (.cells #[x1] 27)) = X := ⟨_, rfl⟩
  have hB : Below W5.heap.size W5 W6 := by rw [← hWn]; exact below_new _ _
  have hla : W5.heap.size ≤ W5.heap.size := by omega
  have hlb : W5.heap.size < W6.heap.size := by rw [← hWn]; simp; try omega
  have HA1 := Lib.hid (show At1 W6 W5.heap.size (x1) by rw [← hWn]; exact At1.new _ (x1) 27)
  clear cHA0
  have NEHA0HA1 := Lib.hid (show W2.heap.size ≠ W5.heap.size by have := HA0.out.1; omega)
  have GEHA1 := Lib.hid (show w.heap.size ≤ W5.heap.size from Nat.le_trans HB.out.size hla)
  obtain ⟨ok2, o1, o2, o3, o4⟩ := ok_step ok1 W5.heap.size W5.heap.size W6.heap.size HFR.out hla hlb
  replace HOKP := Lib.hid (fun b h => HOKP.out b (o1 b h))
  replace HFR := Lib.hid o3
  replace NOHA0 := Lib.hid (fun h => NOHA0.out (o1 _ h))
  replace HT := Lib.hid (fun j hj => keep_below hB _ _ (HT.out j hj))
  replace HX0 := Lib.hid ((HX0.out.nbw (fun b hb h => o2 b hb h)).grow hB)
  replace HA0 := Lib.hid (HA0.out.below hB)
  replace HX1 := Lib.hid ((HX1.out.nbw (fun b hb h => o2 b hb h)).grow hB)
  replace HB := Lib.hid (HB.out.trans (hB.mono HB.out.size))
  have NOHA1 := Lib.hid o4
  clear o1 o2 o3 o4
  clear hla hlb hB
  have IOHA1 : Hid (IsIface (x1)) := Lib.hid (shx1.out)
  have cHA0 := HA0.out.2.1
  have cHA1 := HA1.out.2.1
  
  have hE1 := hWn
  clear hWn
  obtain ⟨W7, hL2⟩ : ∃ X, (W6.alloc (.cells #[.float .f64 4641240890982006784] 53)) = X := ⟨_, rfl⟩
  have hB : Below W6.heap.size W6 W7 := by rw [← hL2]; exact below_new _ _
  have HL2 := Lib.hid (show Slc W7 (fun _ => True) (.slice (some ⟨W6.heap.size, 0, none⟩) 1 1) 1 (f64s [4641240890982006784]) by rw [← hL2]; exact (Slc.owned (World.ownsRow_lit (base := W6.heap.size) (e := 53) (size := 1) W6 #[.float .f64 4641240890982006784] 1 (Nat.le_refl _) (by unfold maxLen; omega) rfl)).any)
  clear cHA0 cHA1
  replace HT := Lib.hid (fun j hj => keep_below hB _ _ (HT.out j hj))
  replace HX0 := Lib.hid (HX0.out.grow hB)
  replace HA0 := Lib.hid (HA0.out.below hB)
  replace HX1 := Lib.hid (HX1.out.grow hB)
  replace HA1 := Lib.hid (HA1.out.below hB)
  replace HB := Lib.hid (HB.out.trans (hB.mono HB.out.size))
  replace HFR := Lib.hid (fun b h => HFR.out b (Nat.le_trans hB.size h))
  clear hB
  have cHA0 := HA0.out.2.1
  have cHA1 := HA1.out.2.1
  go_wp2_with fail
  clear hL2 hE1
  refine (numbers_yes _ [4641240890982006784] _ HL2.out (by decide) (by decide +kernel) HT.out).mono ?_
  clear cHA0 cHA1
  rintro e W8 ⟨x2, rfl, hu, hB⟩
  have stx2 := hu.store
  have shx2 := Lib.hid hu.shape
  have HX2 := Lib.hid (hu.nbw (ok' := ok2) (fun b _ h => HFR.out b h))
  clear hu
  replace HT := Lib.hid (fun j hj => keep_below hB _ _ (HT.out j hj))
  replace HX0 := Lib.hid (HX0.out.grow hB)
  replace HA0 := Lib.hid (HA0.out.below hB)
  replace HX1 := Lib.hid (HX1.out.grow hB)
  replace HA1 := Lib.hid (HA1.out.below hB)
  replace HL2 := Lib.hid (HL2.out.below hB)
  replace HB := Lib.hid (HB.out.trans (hB.mono HB.out.size))
  replace HFR := Lib.hid (fun b h => HFR.out b (Nat.le_trans hB.size h))
  clear hB
  have cHA0 := HA0.out.2.1
  have cHA1 := HA1.out.2.1
  clear HL2
  obtain ⟨W9, hWn⟩ : ∃ X, (W8.alloc (.cells #[x2] 27)) = X := ⟨_, rfl⟩
  have hB : Below W8.heap.size W8 W9 := by rw [← hWn]; exact below_new _ _
  have hla : W8.heap.size ≤ W8.heap.size := by omega
  have hlb : W8.heap.size < W9.heap.size := by rw [← hWn]; simp; try omega
  have HA2 := Lib.hid (show At1 W9 W8.heap.size (x2) by rw [← hWn]; exact At1.new _ (x2) 27)
  clear cHA0 cHA1
  have NEHA0HA2 := Lib.hid (show W2.heap.size ≠ W8.heap.size by have := HA0.out.1; omega)
  have NEHA1HA2 := Lib.hid (show W5.heap.size ≠ W8.heap.size by have := HA1.out.1; omega)
  have GEHA2 := Lib.hid (show w.heap.size ≤ W8.heap.size from Nat.le_trans HB.out.size hla)
  obtain ⟨ok3, o1, o2, o3, o4⟩ := ok_step ok2 W8.heap.size W8.heap.size W9.heap.size HFR.out hla hlb
  replace HOKP := Lib.hid (fun b h => HOKP.out b (o1 b h))
  replace HFR := Lib.hid o3
  replace NOHA0 := Lib.hid (fun h => NOHA0.out (o1 _ h))
  replace NOHA1 := Lib.hid (fun h => NOHA1.out (o1 _ h))
  replace HT := Lib.hid (fun j hj => keep_below hB _ _ (HT.out j hj))
  replace HX0 := Lib.hid ((HX0.out.nbw (fun b hb h => o2 b hb h)).grow hB)
  replace HA0 := Lib.hid (HA0.out.below hB)
  replace HX1 := Lib.hid ((HX1.out.nbw (fun b hb h => o2 b hb h)).grow hB)
  replace HA1 := Lib.hid (HA1.out.below hB)
  replace HX2 := Lib.hid ((HX2.out.nbw (fun b hb h => o2 b hb h)).grow hB)
  replace HB := Lib.hid (HB.out.trans (hB.mono HB.out.size))
  have NOHA2 := Lib.hid o4
  clear o1 o2 o3 o4
  clear hla hlb hB
  have IOHA2 : Hid (IsIface (x2)) := Lib.hid (shx2.out)
  have cHA0 := HA0.out.2.1
  have cHA1 := HA1.out.2.1
  have cHA2 := HA2.out.2.1
  
  have hE2 := hWn
  clear hWn
  obtain ⟨W10, hL3⟩ : ∃ X, (W9.alloc (.cells #[.float .f64 4602678819172646912] 53)) = X := ⟨_, rfl⟩
  have hB : Below W9.heap.size W9 W10 := by rw [← hL3]; exact below_new _ _
  have HL3 := Lib.hid (show Slc W10 (fun _ => True) (.slice (some ⟨W9.heap.size, 0, none⟩) 1 1) 1 (f64s [4602678819172646912]) by rw [← hL3]; exact (Slc.owned (World.ownsRow_lit (base := W9.heap.size) (e := 53) (size := 1) W9 #[.float .f64 4602678819172646912] 1 (Nat.le_refl _) (by unfold maxLen; omega) rfl)).any)
  clear cHA0 cHA1 cHA2
  replace HT := Lib.hid (fun j hj => keep_below hB _ _ (HT.out j hj))
  replace HX0 := Lib.hid (HX0.out.grow hB)
  replace HA0 := Lib.hid (HA0.out.below hB)
  replace HX1 := Lib.hid (HX1.out.grow hB)
  replace HA1 := Lib.hid (HA1.out.below hB)
  replace HX2 := Lib.hid (HX2.out.grow hB)
  replace HA2 := Lib.hid (HA2.out.below hB)
  replace HB := Lib.hid (HB.out.trans (hB.mono HB.out.size))
  replace HFR := Lib.hid (fun b h => HFR.out b (Nat.le_trans hB.size h))
  clear hB
  have cHA0 := HA0.out.2.1
  have cHA1 := HA1.out.2.1
  have cHA2 := HA2.out.2.1
  go_wp2_with fail
  clear hL3 hE2
  refine (numbers_yes _ [4602678819172646912] _ HL3.out (by decide) (by decide +kernel) HT.out).mono ?_
  clear cHA0 cHA1 cHA2
  rintro e W11 ⟨x3, rfl, hu, hB⟩
  have stx3 := hu.store
  have shx3 := Lib.hid hu.shape
  have HX3 := Lib.hid (hu.nbw (ok' := ok3) (fun b _ h => HFR.out b h))
  clear hu
  replace HT := Lib.hid (fun j hj => keep_below hB _ _ (HT.out j hj))
  replace HX0 := Lib.hid (HX0.out.grow hB)
  replace HA0 := Lib.hid (HA0.out.below hB)
  replace HX1 := Lib.hid (HX1.out.grow hB)
  replace HA1 := Lib.hid (HA1.out.below hB)
  replace HX2 := Lib.hid (HX2.out.grow hB)
  replace HA2 := Lib.hid (HA2.out.below hB)
  replace HL3 := Lib.hid (HL3.out.below hB)
  replace HB := Lib.hid (HB.out.trans (hB.mono HB.out.size))
  replace HFR := Lib.hid (fun b h => HFR.out b (Nat.le_trans hB.size h))
  clear hB
  have cHA0 := HA0.out.2.1
  have cHA1 := HA1.out.2.1
  have cHA2 := HA2.out.2.1
  clear HL3
  obtain ⟨W12, hWn⟩ : ∃ X, (W11.alloc (.cells #[x3] 27)) = X := ⟨_, rfl⟩
  have hB : Below W11.heap.size W11 W12 := by rw [← hWn]; exact below_new _ _
  have hla : W11.heap.size ≤ W11.heap.size := by omega
  have hlb : W11.heap.size < W12.heap.size := by rw [← hWn]; simp; try omega
  have HA3 := Lib.hid (show At1 W12 W11.heap.size (x3) by rw [← hWn]; exact At1.new _ (x3) 27)
  clear cHA0 cHA1 cHA2
  have NEHA0HA3 := Lib.hid (show W2.heap.size ≠ W11.heap.size by have := HA0.out.1; omega)
  have NEHA1HA3 := Lib.hid (show W5.heap.size ≠ W11.heap.size by have := HA1.out.1; omega)
  have NEHA2HA3 := Lib.hid (show W8.heap.size ≠ W11.heap.size by have := HA2.out.1; omega)
  have GEHA3 := Lib.hid (show w.heap.size ≤ W11.heap.size from Nat.le_trans HB.out.size hla)
  obtain ⟨ok4, o1, o2, o3, o4⟩ := ok_step ok3 W11.heap.size W11.heap.size W12.heap.size HFR.out hla hlb
  replace HOKP := Lib.hid (fun b h => HOKP.out b (o1 b h))
  replace HFR := Lib.hid o3
  replace NOHA0 := Lib.hid (fun h => NOHA0.out (o1 _ h))
  replace NOHA1 := Lib.hid (fun h => NOHA1.out (o1 _ h))
  replace NOHA2 := Lib.hid (fun h => NOHA2.out (o1 _ h))
  replace HT := Lib.hid (fun j hj => keep_below hB _ _ (HT.out j hj))
  replace HX0 := Lib.hid ((HX0.out.nbw (fun b hb h => o2 b hb h)).grow hB)
  replace HA0 := Lib.hid (HA0.out.below hB)
  replace HX1 := Lib.hid ((HX1.out.nbw (fun b hb h => o2 b hb h)).grow hB)
  replace HA1 := Lib.hid (HA1.out.below hB)
  replace HX2 := Lib.hid ((HX2.out.nbw (fun b hb h => o2 b hb h)).grow hB)
  replace HA2 := Lib.hid (HA2.out.below hB)
  replace HX3 := Lib.hid ((HX3.out.nbw (fun b hb h => o2 b hb h)).grow hB)
  replace HB := Lib.hid (HB.out.trans (hB.mono HB.out.size))
  have NOHA3 := Lib.hid o4
  clear o1 o2 o3 o4
  clear hla hlb hB
  have IOHA3 : Hid (IsIface (x3)) := Lib.hid (shx3.out)
  have cHA0 := HA0.out.2.1
  have cHA1 := HA1.out.2.1
  have cHA2 := HA2.out.2.1
  have cHA3 := HA3.out.2.1
  
  have hE3 := hWn
  clear hWn
  go_wp2_with fail
  clear hE3
  refine (kind_calls _ _ _ HX0.out).mono ?_
  clear cHA0 cHA1 cHA2 cHA3
  rintro e W13 ⟨rfl, hB⟩
  replace HT := Lib.hid (fun j hj => keep_below hB _ _ (HT.out j hj))
  replace HX0 := Lib.hid (HX0.out.grow hB)
  replace HA0 := Lib.hid (HA0.out.below hB)
  replace HX1 := Lib.hid (HX1.out.grow hB)
  replace HA1 := Lib.hid (HA1.out.below hB)
  replace HX2 := Lib.hid (HX2.out.grow hB)
  replace HA2 := Lib.hid (HA2.out.below hB)
  replace HX3 := Lib.hid (HX3.out.grow hB)
  replace HA3 := Lib.hid (HA3.out.below hB)
  replace HB := Lib.hid (HB.out.trans (hB.mono HB.out.size))
  replace HFR := Lib.hid (fun b h => HFR.out b (Nat.le_trans hB.size h))
  rw [awk0]
  clear hB
  have cHA0 := HA0.out.2.1
  have cHA1 := HA1.out.2.1
  have cHA2 := HA2.out.2.1
  have cHA3 := HA3.out.2.1
  go_wp2_with fail
  refine (kind_calls _ _ _ HX1.out).mono ?_
  clear cHA0 cHA1 cHA2 cHA3
  rintro e W14 ⟨rfl, hB⟩
  replace HT := Lib.hid (fun j hj => keep_below hB _ _ (HT.out j hj))
  replace HX0 := Lib.hid (HX0.out.grow hB)
  replace HA0 := Lib.hid (HA0.out.below hB)
  replace HX1 := Lib.hid (HX1.out.grow hB)
  replace HA1 := Lib.hid (HA1.out.below hB)
  replace HX2 := Lib.hid (HX2.out.grow hB)
  replace HA2 := Lib.hid (HA2.out.below hB)
  replace HX3 := Lib.hid (HX3.out.grow hB)
  replace HA3 := Lib.hid (HA3.out.below hB)
  replace HB := Lib.hid (HB.out.trans (hB.mono HB.out.size))
  replace HFR := Lib.hid (fun b h => HFR.out b (Nat.le_trans hB.size h))
  rw [awk1]
  clear hB
  have cHA0 := HA0.out.2.1
  have cHA1 := HA1.out.2.1
  have cHA2 := HA2.out.2.1
  have cHA3 := HA3.out.2.1
  go_wp2_with fail
  refine (kind_calls _ _ _ HX2.out).mono ?_
  clear cHA0 cHA1 cHA2 cHA3
  rintro e W15 ⟨rfl, hB⟩
  replace HT := Lib.hid (fun j hj => keep_below hB _ _ (HT.out j hj))
  replace HX0 := Lib.hid (HX0.out.grow hB)
  replace HA0 := Lib.hid (HA0.out.below hB)
  replace HX1 := Lib.hid (HX1.out.grow hB)
  replace HA1 := Lib.hid (HA1.out.below hB)
  replace HX2 := Lib.hid (HX2.out.grow hB)
  replace HA2 := Lib.hid (HA2.out.below hB)
  replace HX3 := Lib.hid (HX3.out.grow hB)
  replace HA3 := Lib.hid (HA3.out.below hB)
  replace HB := Lib.hid (HB.out.trans (hB.mono HB.out.size))
  replace HFR := Lib.hid (fun b h => HFR.out b (Nat.le_trans hB.size h))
  rw [awk2]
  clear hB
  have cHA0 := HA0.out.2.1
  have cHA1 := HA1.out.2.1
  have cHA2 := HA2.out.2.1
  have cHA3 := HA3.out.2.1
  go_wp2_with fail
  refine (kind_calls _ _ _ HX3.out).mono ?_
  clear cHA0 cHA1 cHA2 cHA3
  rintro e W16 ⟨rfl, hB⟩
  replace HT := Lib.hid (fun j hj => keep_below hB _ _ (HT.out j hj))
  replace HX0 := Lib.hid (HX0.out.grow hB)
  replace HA0 := Lib.hid (HA0.out.below hB)
  replace HX1 := Lib.hid (HX1.out.grow hB)
  replace HA1 := Lib.hid (HA1.out.below hB)
  replace HX2 := Lib.hid (HX2.out.grow hB)
  replace HA2 := Lib.hid (HA2.out.below hB)
  replace HX3 := Lib.hid (HX3.out.grow hB)
  replace HA3 := Lib.hid (HA3.out.below hB)
  replace HB := Lib.hid (HB.out.trans (hB.mono HB.out.size))
  replace HFR := Lib.hid (fun b h => HFR.out b (Nat.le_trans hB.size h))
  rw [awk3]
  clear hB
  have cHA0 := HA0.out.2.1
  have cHA1 := HA1.out.2.1
  have cHA2 := HA2.out.2.1
  have cHA3 := HA3.out.2.1
  go_wp2
  go_ret
  exact ⟨rfl, HB.out⟩
end Go.Proofs.YtnicoddkbcfijaaDoor

/- SqueezeLeast, all ways. -/
import Derived.Test.YtnicoddkbcfijaaDoorSqH
namespace Go.Proofs.YtnicoddkbcfijaaDoor
open Go.RowKit Fl
set_option linter.unusedVariables false
set_option maxRecDepth 8000

set_option maxHeartbeats 8000000 in
theorem sqLeast_no (w : World) (v1 : Value) (l : List Nat) (HS1 : Hid (Slc w (fun _ => True) v1 l.length (f64s l))) (HT : Hid (TabAt w)) (hl1 : l.length ≤ 500) (HW : Hid (∀ x ∈ l, x < 18446744073709551616)) (HF : Hid (∃ x ∈ l, ¬ Fnt x)) :
    Calls Tryd.prog 3 #[v1] w fun e w' => e = .returned (.bool true) ∧ Below w.heap.size w w' := by
  have HL := Lib.hid (show l.length ≤ 2000000 by omega)
  have HLm := Lib.hid (show l.length ≤ 1048576 by omega)
  have HB := Lib.hid (Below.refl w.heap.size w)
  obtain ⟨ao1, cap1, rfl, _⟩ := HS1.out.opened
  obtain ⟨ok0, hok0⟩ : ∃ o : Nat → Prop, o = fun b => w.heap.size ≤ b := ⟨_, rfl⟩
  have HOKP := Lib.hid (show ∀ b, ok0 b → w.heap.size ≤ b by rw [hok0]; exact fun b h => h)
  have HFR := Lib.hid (show ∀ b, w.heap.size ≤ b → ok0 b by rw [hok0]; exact fun b h => h)
  clear hok0
  go_enter Tryd.func3, Tryd.ntmps3
  go_wp2_with fail
  refine (rtidys_no _ l _ HS1.out HL.out HW.out HF.out).mono ?_
  rintro e W1 ⟨rfl, hB⟩
  replace HT := Lib.hid (fun j hj => keep_below hB _ _ (HT.out j hj))
  replace HS1 := Lib.hid (HS1.out.below hB)
  replace HB := Lib.hid (HB.out.trans (hB.mono HB.out.size))
  replace HFR := Lib.hid (fun b h => HFR.out b (Nat.le_trans hB.size h))
  clear hB
  go_wp2_with fail
  refine (vfloats_no _ l _ HS1.out HL.out HW.out HF.out).mono ?_
  rintro e W2 ⟨u, rfl, hu0, hB⟩
  have hu := hu0.nbk (ok' := fun b => W1.heap.size ≤ b) (fun b _ h => h)
  clear hu0
  have stu := hu.store
  have shu := Lib.hid hu.shape
  have HV := Lib.hid (hu.nbw (ok' := ok0) (fun b _ h => HFR.out b h))
  clear hu
  replace HT := Lib.hid (fun j hj => keep_below hB _ _ (HT.out j hj))
  replace HS1 := Lib.hid (HS1.out.below hB)
  replace HB := Lib.hid (HB.out.trans (hB.mono HB.out.size))
  replace HFR := Lib.hid (fun b h => HFR.out b (Nat.le_trans hB.size h))
  clear hB
  obtain ⟨W3, hWn⟩ : ∃ X, (W2.alloc (.cells #[u] 27)) = X := ⟨_, rfl⟩
  have hB : Below W2.heap.size W2 W3 := by rw [← hWn]; exact below_new _ _
  have hla : W2.heap.size ≤ W2.heap.size := by omega
  have hlb : W2.heap.size < W3.heap.size := by rw [← hWn]; simp; try omega
  have HZ := Lib.hid (show At1 W3 W2.heap.size (u) by rw [← hWn]; exact At1.new _ (u) 27)
  have GEHZ := Lib.hid (show w.heap.size ≤ W2.heap.size from Nat.le_trans HB.out.size hla)
  obtain ⟨ok1, o1, o2, o3, o4⟩ := ok_step ok0 W2.heap.size W2.heap.size W3.heap.size HFR.out hla hlb
  replace HOKP := Lib.hid (fun b h => HOKP.out b (o1 b h))
  replace HFR := Lib.hid o3
  replace HT := Lib.hid (fun j hj => keep_below hB _ _ (HT.out j hj))
  replace HS1 := Lib.hid (HS1.out.below hB)
  replace HV := Lib.hid ((HV.out.nbw (fun b hb h => o2 b hb h)).grow hB)
  replace HB := Lib.hid (HB.out.trans (hB.mono HB.out.size))
  have NOHZ := Lib.hid o4
  clear o1 o2 o3 o4
  clear hla hlb hB
  have IOHZ : Hid (IsIface (u)) := Lib.hid (shu.out)
  have cHZ := HZ.out.2.1
  
  have hE1 := hWn
  clear hWn
  go_wp2_with fail
  clear hE1
  refine (numbers_no _ l _ HS1.out HLm.out HW.out HF.out).mono ?_
  clear cHZ
  rintro e W4 ⟨rfl, hB⟩
  replace HT := Lib.hid (fun j hj => keep_below hB _ _ (HT.out j hj))
  replace HS1 := Lib.hid (HS1.out.below hB)
  replace HV := Lib.hid (HV.out.grow hB)
  replace HZ := Lib.hid (HZ.out.below hB)
  replace HB := Lib.hid (HB.out.trans (hB.mono HB.out.size))
  replace HFR := Lib.hid (fun b h => HFR.out b (Nat.le_trans hB.size h))
  clear hB
  have cHZ := HZ.out.2.1
  obtain ⟨W5, hWn⟩ : ∃ X, (W4.alloc (.cells #[.nilIface] 27)) = X := ⟨_, rfl⟩
  have hB : Below W4.heap.size W4 W5 := by rw [← hWn]; exact below_new _ _
  have hla : W4.heap.size ≤ W4.heap.size := by omega
  have hlb : W4.heap.size < W5.heap.size := by rw [← hWn]; simp; try omega
  have HYa := Lib.hid (show At1 W5 W4.heap.size (.nilIface) by rw [← hWn]; exact At1.new _ (.nilIface) 27)
  clear cHZ
  have NEHZHYa := Lib.hid (show W2.heap.size ≠ W4.heap.size by have := HZ.out.1; omega)
  have GEHYa := Lib.hid (show w.heap.size ≤ W4.heap.size from Nat.le_trans HB.out.size hla)
  obtain ⟨ok2, o1, o2, o3, o4⟩ := ok_step ok1 W4.heap.size W4.heap.size W5.heap.size HFR.out hla hlb
  replace HOKP := Lib.hid (fun b h => HOKP.out b (o1 b h))
  replace HFR := Lib.hid o3
  replace NOHZ := Lib.hid (fun h => NOHZ.out (o1 _ h))
  replace HT := Lib.hid (fun j hj => keep_below hB _ _ (HT.out j hj))
  replace HS1 := Lib.hid (HS1.out.below hB)
  replace HV := Lib.hid ((HV.out.nbw (fun b hb h => o2 b hb h)).grow hB)
  replace HZ := Lib.hid (HZ.out.below hB)
  replace HB := Lib.hid (HB.out.trans (hB.mono HB.out.size))
  have NOHYa := Lib.hid o4
  clear o1 o2 o3 o4
  clear hla hlb hB
  have IOHYa : Hid (IsIface (.nilIface)) := Lib.hid (.inl rfl)
  have cHZ := HZ.out.2.1
  have cHYa := HYa.out.2.1
  
  have hE1 := hWn
  clear hWn
  have fHYa := HYa.out.2.2 0
  go_wp2_with fail
  clear hE1 fHYa
  obtain ⟨W6, hWn⟩ : ∃ X, W5.setCell ⟨W4.heap.size, 0, none⟩ (.nilIface) = X := ⟨_, rfl⟩
  have cHYa0 := HYa.out.2.1
  clear cHZ cHYa
  have hg : W5.grownBy W6 (some W4.heap.size) := by rw [← hWn]; exact grown_setCell _ _ _
  have hz : W6.heap.size = W5.heap.size := by rw [← hWn]; simp
  replace HT := Lib.hid (show TabAt W6 by rw [← hWn]; exact TabAt.setc HT.out cHYa0 IOHYa.out _)
  replace HS1 := Lib.hid (by have hq := Slc.setc HS1.out cHYa0 (by intro z hz; (first | (simp only [f64s, List.mem_map] at hz) | (simp only [i8s, List.mem_map] at hz) | (simp only [i32s, List.mem_map] at hz) | (simp only [Go.Proofs.YtnicoddkbcfijaaDoor.ints, List.mem_map] at hz) | (simp only [u64s, List.mem_map] at hz)); obtain ⟨q, _, rfl⟩ := hz; first | exact IOHYa.out.ne_int _ _ | exact IOHYa.out.ne_float _ _) (.nilIface); rw [hWn] at hq; exact hq)
  replace HV := Lib.hid (show IsV W6 _ _ _ by rw [← hWn]; exact HV.out.setw cHYa0 IOHYa.out NOHYa.out _)
  replace HZ := Lib.hid (HZ.out.grown hg (fun e => NEHZHYa.out (Option.some.inj e)))
  replace HYa := Lib.hid (show At1 W6 W4.heap.size (.nilIface) by rw [← hWn]; exact HYa.out.set _)
  replace IOHYa : Hid (IsIface (.nilIface)) := Lib.hid (.inl rfl)
  replace HB := Lib.hid (show Below w.heap.size w W6 by rw [← hWn]; exact HB.out.setCell GEHYa.out _)
  replace HFR := Lib.hid (fun b h => HFR.out b (by rw [← hz]; exact h))
  have cHZ := HZ.out.2.1
  have cHYa := HYa.out.2.1
  rw [hWn]
  clear hWn hg hz cHYa0
  refine (kind_calls _ _ _ (.none (ok := fun _ => True))).mono ?_
  clear cHZ cHYa
  rintro e W7 ⟨rfl, hB⟩
  replace HT := Lib.hid (fun j hj => keep_below hB _ _ (HT.out j hj))
  replace HS1 := Lib.hid (HS1.out.below hB)
  replace HV := Lib.hid (HV.out.grow hB)
  replace HZ := Lib.hid (HZ.out.below hB)
  replace HYa := Lib.hid (HYa.out.below hB)
  replace HB := Lib.hid (HB.out.trans (hB.mono HB.out.size))
  replace HFR := Lib.hid (fun b h => HFR.out b (Nat.le_trans hB.size h))
  clear hB
  have cHZ := HZ.out.2.1
  have cHYa := HYa.out.2.1
  go_wp2_with fail
  refine (awake5_calls _ HT.out).mono ?_
  clear cHZ cHYa
  rintro e W8 ⟨rfl, hB⟩
  replace HT := Lib.hid (fun j hj => keep_below hB _ _ (HT.out j hj))
  replace HS1 := Lib.hid (HS1.out.below hB)
  replace HV := Lib.hid (HV.out.grow hB)
  replace HZ := Lib.hid (HZ.out.below hB)
  replace HYa := Lib.hid (HYa.out.below hB)
  replace HB := Lib.hid (HB.out.trans (hB.mono HB.out.size))
  replace HFR := Lib.hid (fun b h => HFR.out b (Nat.le_trans hB.size h))
  clear hB
  have cHZ := HZ.out.2.1
  have cHYa := HYa.out.2.1
  go_wp2
  go_ret
  exact ⟨rfl, HB.out⟩

theorem squeezeLeast_calls (w : World) (v1 : Value) (l : List Nat) (hr1 : RowC w v1 (l.map (Value.float .f64))) (hz1 : ∀ z ∈ l, (Lit.float .f64 z).wf = true) (hl1 : l.length ≤ maxLen) (hT : TabAt w) :
    Calls Tryd.prog 3 #[v1] w fun e w' => e = .returned (.bool true) ∧ Below w.heap.size w w' := by
  have HT := Lib.hid hT
  have HS1 := Lib.hid (show Slc w (fun _ => True) v1 l.length (f64s l) by have := hr1.slc; rw [List.length_map] at this; exact this)
  have HWF := Lib.hid (fun x (h : x ∈ l) => wf_f64 (hz1 x h))
  unfold maxLen at hl1
  clear hr1 hz1 hT
  by_cases hbig : 500 < l.length
  · obtain ⟨ao1, cap1, rfl, _⟩ := HS1.out.opened
    go_enter Tryd.func3, Tryd.ntmps3
    go_wp2_with fail
    refine (awake5_calls w HT.out).mono ?_
    rintro e w1 ⟨rfl, hB⟩
    have HB := Lib.hid hB
    clear hB
    go_wp2
    go_ret
    exact ⟨rfl, HB.out⟩
  by_cases hF : ∀ x ∈ l, Fnt x
  · exact sqLeast_yes w v1 l HS1 HT (by omega) (Lib.hid hF)
  · have hN : ∃ x ∈ l, ¬ Fnt x := by
      apply Classical.byContradiction
      intro hc
      exact hF fun x hx => Classical.byContradiction fun hn => hc ⟨x, hx, hn⟩
    exact sqLeast_no w v1 l HS1 HT (by omega) HWF (Lib.hid hN)
end Go.Proofs.YtnicoddkbcfijaaDoor

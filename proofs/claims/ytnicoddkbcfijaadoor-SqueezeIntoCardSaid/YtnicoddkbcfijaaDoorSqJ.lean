/- SqueezeInto, walked: it fits the first kind. -/
import Derived.Test.YtnicoddkbcfijaaDoorSqF
namespace Go.Proofs.YtnicoddkbcfijaaDoor
open Go.RowKit Fl
set_option linter.unusedVariables false
set_option maxRecDepth 8000

set_option maxHeartbeats 8000000 in
theorem sqInto_yy (w : World) (v1 : Value) (l : List Nat) (kind : Int) (fro : Int) (HS1 : Hid (Slc w (fun _ => True) v1 l.length (f64s l))) (HT : Hid (TabAt w)) (hl1 : l.length ≤ 500) (HF : Hid (∀ x ∈ l, Fnt x))
    (h1 : (decide ((leastW (l.map ze) : Int) ≤ fro) && decide (fro ≤ 4)) = true) (h2 : (decide ((leastW (l.map ze) : Int) ≤ kind) && decide (kind ≤ 4)) = true) :
    Calls Tryd.prog 4 #[v1, .int .i64 kind, .int .i64 fro] w fun e w' => e = .returned (.bool true) ∧ Below w.heap.size w w' := by
  have HL := Lib.hid (show l.length ≤ 2000000 by omega)
  have HLm := Lib.hid (show l.length ≤ 1048576 by omega)
  obtain ⟨t, ht⟩ : ∃ t, l.map ze = t := ⟨_, rfl⟩
  rw [ht] at h1 h2
  have HTE := Lib.hid ht
  have HTL := Lib.hid (show t.length = l.length by rw [← ht, List.length_map])
  have HML := Lib.hid (show t.length ≤ 2000000 by rw [HTL.out]; omega)
  have HMM := Lib.hid (show t.length ≤ 9223372036854775807 by rw [HTL.out]; omega)
  have HOK : Hid ((VV.floats t).ok) := Lib.hid (show t.length ≤ 1048576 by rw [HTL.out]; omega)
  have HN : Hid ((VV.floats t).nm) := Lib.hid (fun x hx => by rw [← ht] at hx; obtain ⟨y, hy, rfl⟩ := List.mem_map.1 hx; exact Fl.ze_num (HF.out y hy))
  have hlw := leastW_le t
  clear ht
  have H1 := Lib.hid h1
  have H2 := Lib.hid h2
  have HF1 := Lib.hid (show (VV.floats t).fit fro = true by rw [VV.fit_eq HOK.out HN.out rfl (show ((leastW t : Nat) : Int) ≤ 4 by omega) (show (4 : Int) ≤ 4 by decide)]; exact h1)
  obtain ⟨V1, hV1⟩ : ∃ V, (VV.floats t).into fro = V := ⟨_, rfl⟩
  have hs := VV.into_spec HOK.out HN.out HF1.out
  rw [hV1] at hs
  have HV1 := Lib.hid hV1
  have HS := Lib.hid hs
  have HM1 := Lib.hid (show V1.nums = t from HS.out.2.1)
  have HC1 := Lib.hid (show V1.cls = 0 from HS.out.2.2.1)
  have HO1 := Lib.hid (show V1.ok from HS.out.2.2.2.1)
  have HN1 := Lib.hid (show V1.nm from HS.out.2.2.2.2.1)
  have HK1 := Lib.hid (show V1.kind = fro from HS.out.1)
  simp only [Bool.and_eq_true, decide_eq_true_eq] at h1
  have hk1 : (leastW t : Int) ≤ fro ∧ fro ≤ 4 := h1
  clear hV1 hs h1
  have HF2 := Lib.hid (show V1.fit kind = true by rw [VV.fit_eq HO1.out HN1.out HC1.out (by rw [HM1.out, HK1.out]; exact hk1.1) (by rw [HK1.out]; exact hk1.2), HM1.out]; exact h2)
  obtain ⟨V2, hV2⟩ : ∃ V, V1.into kind = V := ⟨_, rfl⟩
  have hs2 := VV.into_spec HO1.out HN1.out HF2.out
  rw [hV2, HM1.out, HC1.out] at hs2
  have HS2 := Lib.hid hs2
  have HV2 := Lib.hid hV2
  have HM2 := Lib.hid (show V2.nums = t from HS2.out.2.1)
  have HO2 := Lib.hid (show V2.ok from HS2.out.2.2.2.1)
  have HN2 := Lib.hid (show V2.nm from HS2.out.2.2.2.2.1)
  have HK2 := Lib.hid (show V2.kind = kind from HS2.out.1)
  obtain ⟨q, hq⟩ : ∃ q : Int, ((leastW t : Nat) : Int) = q := ⟨_, rfl⟩
  have HQ := Lib.hid hq
  have HL2 := Lib.hid (show (V2.least : Int) = q by rw [VV.least_eq HO2.out HN2.out HS2.out.2.2.1, HM2.out]; exact hq)
  have HSK := Lib.hid (show V2.sq.kind = q by rw [VV.sq_kind HO2.out HN2.out HS2.out.2.2.1, HM2.out]; exact hq)
  have HSQ := Lib.hid (VV.sq_spec HO2.out HN2.out)
  have HSM := Lib.hid (show V2.sq.nums = t by rw [HSQ.out.2.1]; exact HM2.out)
  clear hs2 hV2 hq
  clear h2 hk1 hlw
  have HB := Lib.hid (Below.refl w.heap.size w)
  obtain ⟨ao1, cap1, rfl, _⟩ := HS1.out.opened
  obtain ⟨ok0, hok0⟩ : ∃ o : Nat → Prop, o = fun b => w.heap.size ≤ b := ⟨_, rfl⟩
  have HOKP := Lib.hid (show ∀ b, ok0 b → w.heap.size ≤ b by rw [hok0]; exact fun b h => h)
  have HFR := Lib.hid (show ∀ b, w.heap.size ≤ b → ok0 b by rw [hok0]; exact fun b h => h)
  clear hok0
  go_enter Tryd.func4, Tryd.ntmps4
  go_wp2_with fail
  refine (rtidys_yes _ l _ HS1.out HL.out HF.out).mono ?_
  rintro e W1 ⟨vt, rfl, hs, hB⟩
  replace HT := Lib.hid (fun j hj => keep_below hB _ _ (HT.out j hj))
  replace HS1 := Lib.hid (HS1.out.below hB)
  replace HB := Lib.hid (HB.out.trans (hB.mono HB.out.size))
  replace HFR := Lib.hid (fun b h => HFR.out b (Nat.le_trans hB.size h))
  have HTS := Lib.hid (show Slc W1 _ vt t.length (f64s t) from by have := hs.any; rw [HTE.out] at this; rw [HTL.out]; exact this)
  clear hs
  clear hB
  go_wp2_with fail
  obtain ⟨aot, capt, rfl, _⟩ := HTS.out.opened
  refine (vfloats_yes _ l _ HS1.out HL.out HF.out).mono ?_
  rintro e W2 ⟨u, rfl, hu0, hB⟩
  rw [HTE.out] at hu0
  have hu := hu0.nbk (ok' := fun b => W1.heap.size ≤ b) (fun b _ h => h)
  clear hu0
  have stu := hu.store
  have shu := Lib.hid hu.shape
  have HV := Lib.hid (hu.nbw (ok' := ok0) (fun b _ h => HFR.out b h))
  clear hu
  replace HT := Lib.hid (fun j hj => keep_below hB _ _ (HT.out j hj))
  replace HS1 := Lib.hid (HS1.out.below hB)
  replace HTS := Lib.hid (HTS.out.below hB)
  replace HB := Lib.hid (HB.out.trans (hB.mono HB.out.size))
  replace HFR := Lib.hid (fun b h => HFR.out b (Nat.le_trans hB.size h))
  clear hB
  obtain ⟨W3, hWn⟩ : ∃ X, (W2.alloc (.cells #[u] 27)) = X := ⟨_, rfl⟩
  have hB : Below W2.heap.size W2 W3 := by rw [← hWn]; exact below_new _ _
  have hla : W2.heap.size ≤ W2.heap.size := by omega
  have hlb : W2.heap.size < W3.heap.size := by rw [← hWn]; simp; try omega
  have HZ := Lib.hid (show At1 W3 W2.heap.size (u) by rw [← hWn]; exact At1.new _ (u) 27)
  have GEHZ := Lib.hid (show w.heap.size ≤ W2.heap.size from Nat.le_trans HB.out.size hla)
  obtain ⟨ok1, o1, o2, o3, o4⟩ := ok_step ok0 W2.heap.size W2.heap.size W3.heap.size HFR.out hla hlb
  replace HOKP := Lib.hid (fun b h => HOKP.out b (o1 b h))
  replace HFR := Lib.hid o3
  replace HT := Lib.hid (fun j hj => keep_below hB _ _ (HT.out j hj))
  replace HS1 := Lib.hid (HS1.out.below hB)
  replace HTS := Lib.hid (HTS.out.below hB)
  replace HV := Lib.hid ((HV.out.nbw (fun b hb h => o2 b hb h)).grow hB)
  replace HB := Lib.hid (HB.out.trans (hB.mono HB.out.size))
  have NOHZ := Lib.hid o4
  clear o1 o2 o3 o4
  clear hla hlb hB
  have IOHZ : Hid (IsIface (u)) := Lib.hid (shu.out)
  have cHZ := HZ.out.2.1
  
  have hE1 := hWn
  clear hWn
  go_wp2_with fail
  clear hE1
  refine (Calls.grow_same (rfits_calls _ t fro _ HTS.out HMM.out HN.out)).mono ?_
  clear cHZ
  rintro e W4 ⟨rfl, hB⟩
  replace HT := Lib.hid (fun j hj => keep_below hB _ _ (HT.out j hj))
  replace HS1 := Lib.hid (HS1.out.below hB)
  replace HTS := Lib.hid (HTS.out.below hB)
  replace HV := Lib.hid (HV.out.grow hB)
  replace HZ := Lib.hid (HZ.out.below hB)
  replace HB := Lib.hid (HB.out.trans (hB.mono HB.out.size))
  replace HFR := Lib.hid (fun b h => HFR.out b (Nat.le_trans hB.size h))
  rw [H1.out]
  clear hB
  have cHZ := HZ.out.2.1
  have fHZ := HZ.out.2.2 0
  go_wp2_with fail
  clear fHZ
  refine (sinto_calls _ _ _ _ HV.out HOK.out HN.out HT.out).mono ?_
  clear cHZ
  rintro e W5 ⟨x, rfl, hu, hB⟩
  rw [HF1.out]
  rw [HV1.out] at hu
  have stx := hu.store
  have shx := Lib.hid hu.shape
  have HX := Lib.hid (hu.nbw (ok' := ok1) (fun b _ h => h.elim id (HFR.out b)))
  clear hu
  replace HT := Lib.hid (fun j hj => keep_below hB _ _ (HT.out j hj))
  replace HS1 := Lib.hid (HS1.out.below hB)
  replace HTS := Lib.hid (HTS.out.below hB)
  replace HV := Lib.hid (HV.out.grow hB)
  replace HZ := Lib.hid (HZ.out.below hB)
  replace HB := Lib.hid (HB.out.trans (hB.mono HB.out.size))
  replace HFR := Lib.hid (fun b h => HFR.out b (Nat.le_trans hB.size h))
  clear hB
  have cHZ := HZ.out.2.1
  have fHZ := HZ.out.2.2 0
  go_wp2_with fail
  clear fHZ
  obtain ⟨W6, hWn⟩ : ∃ X, W5.setCell ⟨W2.heap.size, 0, none⟩ (x) = X := ⟨_, rfl⟩
  have cHZ0 := HZ.out.2.1
  clear cHZ
  have hg : W5.grownBy W6 (some W2.heap.size) := by rw [← hWn]; exact grown_setCell _ _ _
  have hz : W6.heap.size = W5.heap.size := by rw [← hWn]; simp
  replace HT := Lib.hid (show TabAt W6 by rw [← hWn]; exact TabAt.setc HT.out cHZ0 IOHZ.out _)
  replace HS1 := Lib.hid (by have hq := Slc.setc HS1.out cHZ0 (by intro z hz; (first | (simp only [f64s, List.mem_map] at hz) | (simp only [i8s, List.mem_map] at hz) | (simp only [i32s, List.mem_map] at hz) | (simp only [Go.Proofs.YtnicoddkbcfijaaDoor.ints, List.mem_map] at hz) | (simp only [u64s, List.mem_map] at hz)); obtain ⟨q, _, rfl⟩ := hz; first | exact IOHZ.out.ne_int _ _ | exact IOHZ.out.ne_float _ _) (x); rw [hWn] at hq; exact hq)
  replace HTS := Lib.hid (by have hq := Slc.setc HTS.out cHZ0 (by intro z hz; (first | (simp only [f64s, List.mem_map] at hz) | (simp only [i8s, List.mem_map] at hz) | (simp only [i32s, List.mem_map] at hz) | (simp only [Go.Proofs.YtnicoddkbcfijaaDoor.ints, List.mem_map] at hz) | (simp only [u64s, List.mem_map] at hz)); obtain ⟨q, _, rfl⟩ := hz; first | exact IOHZ.out.ne_int _ _ | exact IOHZ.out.ne_float _ _) (x); rw [hWn] at hq; exact hq)
  replace HV := Lib.hid (show IsV W6 _ _ _ by rw [← hWn]; exact HV.out.setw cHZ0 IOHZ.out NOHZ.out _)
  replace HX := Lib.hid (show IsV W6 _ _ _ by rw [← hWn]; exact HX.out.setw cHZ0 IOHZ.out NOHZ.out _)
  replace HZ := Lib.hid (show At1 W6 W2.heap.size (x) by rw [← hWn]; exact HZ.out.set _)
  replace IOHZ : Hid (IsIface (x)) := Lib.hid (shx.out)
  replace HB := Lib.hid (show Below w.heap.size w W6 by rw [← hWn]; exact HB.out.setCell GEHZ.out _)
  replace HFR := Lib.hid (fun b h => HFR.out b (by rw [← hz]; exact h))
  have cHZ := HZ.out.2.1
  rw [hWn]
  clear hWn hg hz cHZ0
  refine (kind_calls _ _ _ HX.out).mono ?_
  clear cHZ
  rintro e W7 ⟨rfl, hB⟩
  replace HT := Lib.hid (fun j hj => keep_below hB _ _ (HT.out j hj))
  replace HS1 := Lib.hid (HS1.out.below hB)
  replace HTS := Lib.hid (HTS.out.below hB)
  replace HV := Lib.hid (HV.out.grow hB)
  replace HZ := Lib.hid (HZ.out.below hB)
  replace HX := Lib.hid (HX.out.grow hB)
  replace HB := Lib.hid (HB.out.trans (hB.mono HB.out.size))
  replace HFR := Lib.hid (fun b h => HFR.out b (Nat.le_trans hB.size h))
  rw [HK1.out]
  clear hB
  have cHZ := HZ.out.2.1
  go_wp2_with fail
  refine (sinto_calls _ _ _ _ HX.out HO1.out HN1.out HT.out).mono ?_
  clear cHZ
  rintro e W8 ⟨y, rfl, hu, hB⟩
  rw [HF2.out]
  rw [HV2.out] at hu
  have sty := hu.store
  have shy := Lib.hid hu.shape
  have HY := Lib.hid (hu.nbw (ok' := ok1) (fun b _ h => h.elim id (HFR.out b)))
  clear hu
  replace HT := Lib.hid (fun j hj => keep_below hB _ _ (HT.out j hj))
  replace HS1 := Lib.hid (HS1.out.below hB)
  replace HTS := Lib.hid (HTS.out.below hB)
  replace HV := Lib.hid (HV.out.grow hB)
  replace HZ := Lib.hid (HZ.out.below hB)
  replace HX := Lib.hid (HX.out.grow hB)
  replace HB := Lib.hid (HB.out.trans (hB.mono HB.out.size))
  replace HFR := Lib.hid (fun b h => HFR.out b (Nat.le_trans hB.size h))
  clear hB
  have cHZ := HZ.out.2.1
  obtain ⟨W9, hWn⟩ : ∃ X, (W8.alloc (.cells #[y] 27)) = X := ⟨_, rfl⟩
  have hB : Below W8.heap.size W8 W9 := by rw [← hWn]; exact below_new _ _
  have hla : W8.heap.size ≤ W8.heap.size := by omega
  have hlb : W8.heap.size < W9.heap.size := by rw [← hWn]; simp; try omega
  have HYa := Lib.hid (show At1 W9 W8.heap.size (y) by rw [← hWn]; exact At1.new _ (y) 27)
  clear cHZ
  have NEHZHYa := Lib.hid (show W2.heap.size ≠ W8.heap.size by have := HZ.out.1; omega)
  have GEHYa := Lib.hid (show w.heap.size ≤ W8.heap.size from Nat.le_trans HB.out.size hla)
  obtain ⟨ok2, o1, o2, o3, o4⟩ := ok_step ok1 W8.heap.size W8.heap.size W9.heap.size HFR.out hla hlb
  replace HOKP := Lib.hid (fun b h => HOKP.out b (o1 b h))
  replace HFR := Lib.hid o3
  replace NOHZ := Lib.hid (fun h => NOHZ.out (o1 _ h))
  replace HT := Lib.hid (fun j hj => keep_below hB _ _ (HT.out j hj))
  replace HS1 := Lib.hid (HS1.out.below hB)
  replace HTS := Lib.hid (HTS.out.below hB)
  replace HV := Lib.hid ((HV.out.nbw (fun b hb h => o2 b hb h)).grow hB)
  replace HZ := Lib.hid (HZ.out.below hB)
  replace HX := Lib.hid ((HX.out.nbw (fun b hb h => o2 b hb h)).grow hB)
  replace HY := Lib.hid ((HY.out.nbw (fun b hb h => o2 b hb h)).grow hB)
  replace HB := Lib.hid (HB.out.trans (hB.mono HB.out.size))
  have NOHYa := Lib.hid o4
  clear o1 o2 o3 o4
  clear hla hlb hB
  have IOHYa : Hid (IsIface (y)) := Lib.hid (shy.out)
  have cHZ := HZ.out.2.1
  have cHYa := HYa.out.2.1
  
  have hE1 := hWn
  clear hWn
  go_wp2_with fail
  clear hE1
  refine (Calls.grow_same (rfits_calls _ t kind _ HTS.out HMM.out HN.out)).mono ?_
  clear cHZ cHYa
  rintro e W10 ⟨rfl, hB⟩
  replace HT := Lib.hid (fun j hj => keep_below hB _ _ (HT.out j hj))
  replace HS1 := Lib.hid (HS1.out.below hB)
  replace HTS := Lib.hid (HTS.out.below hB)
  replace HV := Lib.hid (HV.out.grow hB)
  replace HZ := Lib.hid (HZ.out.below hB)
  replace HX := Lib.hid (HX.out.grow hB)
  replace HY := Lib.hid (HY.out.grow hB)
  replace HYa := Lib.hid (HYa.out.below hB)
  replace HB := Lib.hid (HB.out.trans (hB.mono HB.out.size))
  replace HFR := Lib.hid (fun b h => HFR.out b (Nat.le_trans hB.size h))
  rw [H2.out]
  clear hB
  have cHZ := HZ.out.2.1
  have cHYa := HYa.out.2.1
  go_wp2_with fail
  refine (squeeze_calls _ _ _ HY.out HO2.out HN2.out HT.out).mono ?_
  clear cHZ cHYa
  rintro e W11 ⟨s, rfl, hu, hB⟩
  have sts := hu.store
  have shs := Lib.hid hu.shape
  have HQ1 := Lib.hid (hu.nbw (ok' := ok2) (fun b _ h => h.elim id (HFR.out b)))
  clear hu
  replace HT := Lib.hid (fun j hj => keep_below hB _ _ (HT.out j hj))
  replace HS1 := Lib.hid (HS1.out.below hB)
  replace HTS := Lib.hid (HTS.out.below hB)
  replace HV := Lib.hid (HV.out.grow hB)
  replace HZ := Lib.hid (HZ.out.below hB)
  replace HX := Lib.hid (HX.out.grow hB)
  replace HY := Lib.hid (HY.out.grow hB)
  replace HYa := Lib.hid (HYa.out.below hB)
  replace HB := Lib.hid (HB.out.trans (hB.mono HB.out.size))
  replace HFR := Lib.hid (fun b h => HFR.out b (Nat.le_trans hB.size h))
  clear hB
  have cHZ := HZ.out.2.1
  have cHYa := HYa.out.2.1
  obtain ⟨W12, hWn⟩ : ∃ X, (W11.alloc (.cells #[s] 27)) = X := ⟨_, rfl⟩
  have hB : Below W11.heap.size W11 W12 := by rw [← hWn]; exact below_new _ _
  have hla : W11.heap.size ≤ W11.heap.size := by omega
  have hlb : W11.heap.size < W12.heap.size := by rw [← hWn]; simp; try omega
  have HQa := Lib.hid (show At1 W12 W11.heap.size (s) by rw [← hWn]; exact At1.new _ (s) 27)
  clear cHZ cHYa
  have NEHZHQa := Lib.hid (show W2.heap.size ≠ W11.heap.size by have := HZ.out.1; omega)
  have NEHYaHQa := Lib.hid (show W8.heap.size ≠ W11.heap.size by have := HYa.out.1; omega)
  have GEHQa := Lib.hid (show w.heap.size ≤ W11.heap.size from Nat.le_trans HB.out.size hla)
  obtain ⟨ok3, o1, o2, o3, o4⟩ := ok_step ok2 W11.heap.size W11.heap.size W12.heap.size HFR.out hla hlb
  replace HOKP := Lib.hid (fun b h => HOKP.out b (o1 b h))
  replace HFR := Lib.hid o3
  replace NOHZ := Lib.hid (fun h => NOHZ.out (o1 _ h))
  replace NOHYa := Lib.hid (fun h => NOHYa.out (o1 _ h))
  replace HT := Lib.hid (fun j hj => keep_below hB _ _ (HT.out j hj))
  replace HS1 := Lib.hid (HS1.out.below hB)
  replace HTS := Lib.hid (HTS.out.below hB)
  replace HV := Lib.hid ((HV.out.nbw (fun b hb h => o2 b hb h)).grow hB)
  replace HZ := Lib.hid (HZ.out.below hB)
  replace HX := Lib.hid ((HX.out.nbw (fun b hb h => o2 b hb h)).grow hB)
  replace HY := Lib.hid ((HY.out.nbw (fun b hb h => o2 b hb h)).grow hB)
  replace HYa := Lib.hid (HYa.out.below hB)
  replace HQ1 := Lib.hid ((HQ1.out.nbw (fun b hb h => o2 b hb h)).grow hB)
  replace HB := Lib.hid (HB.out.trans (hB.mono HB.out.size))
  have NOHQa := Lib.hid o4
  clear o1 o2 o3 o4
  clear hla hlb hB
  have IOHQa : Hid (IsIface (s)) := Lib.hid (shs.out)
  have cHZ := HZ.out.2.1
  have cHYa := HYa.out.2.1
  have cHQa := HQa.out.2.1
  
  have hE1 := hWn
  clear hWn
  go_wp2_with fail
  clear hE1
  refine (kind_calls _ _ _ HY.out).mono ?_
  clear cHZ cHYa cHQa
  rintro e W13 ⟨rfl, hB⟩
  replace HT := Lib.hid (fun j hj => keep_below hB _ _ (HT.out j hj))
  replace HS1 := Lib.hid (HS1.out.below hB)
  replace HTS := Lib.hid (HTS.out.below hB)
  replace HV := Lib.hid (HV.out.grow hB)
  replace HZ := Lib.hid (HZ.out.below hB)
  replace HX := Lib.hid (HX.out.grow hB)
  replace HY := Lib.hid (HY.out.grow hB)
  replace HYa := Lib.hid (HYa.out.below hB)
  replace HQ1 := Lib.hid (HQ1.out.grow hB)
  replace HQa := Lib.hid (HQa.out.below hB)
  replace HB := Lib.hid (HB.out.trans (hB.mono HB.out.size))
  replace HFR := Lib.hid (fun b h => HFR.out b (Nat.le_trans hB.size h))
  rw [HK2.out]
  clear hB
  have cHZ := HZ.out.2.1
  have cHYa := HYa.out.2.1
  have cHQa := HQa.out.2.1
  go_wp2_with fail
  refine (vnums_calls _ _ _ HY.out HO2.out HT.out).mono ?_
  clear cHZ cHYa cHQa
  rintro e W14 ⟨vA1, rfl, hs, hB⟩
  replace HT := Lib.hid (fun j hj => keep_below hB _ _ (HT.out j hj))
  replace HS1 := Lib.hid (HS1.out.below hB)
  replace HTS := Lib.hid (HTS.out.below hB)
  replace HV := Lib.hid (HV.out.grow hB)
  replace HZ := Lib.hid (HZ.out.below hB)
  replace HX := Lib.hid (HX.out.grow hB)
  replace HY := Lib.hid (HY.out.grow hB)
  replace HYa := Lib.hid (HYa.out.below hB)
  replace HQ1 := Lib.hid (HQ1.out.grow hB)
  replace HQa := Lib.hid (HQa.out.below hB)
  replace HB := Lib.hid (HB.out.trans (hB.mono HB.out.size))
  replace HFR := Lib.hid (fun b h => HFR.out b (Nat.le_trans hB.size h))
  have HA1 := Lib.hid (show Slc W14 _ vA1 t.length (f64s t) from by have := hs.any; rw [HM2.out] at this; exact this)
  clear hs
  clear hB
  have cHZ := HZ.out.2.1
  have cHYa := HYa.out.2.1
  have cHQa := HQa.out.2.1
  go_wp2_with fail
  refine (floats_same _ _ t _ HA1.out HTS.out HML.out HN.out).mono ?_
  clear cHZ cHYa cHQa
  rintro e W15 ⟨rfl, hB⟩
  replace HT := Lib.hid (fun j hj => keep_below hB _ _ (HT.out j hj))
  replace HS1 := Lib.hid (HS1.out.below hB)
  replace HTS := Lib.hid (HTS.out.below hB)
  replace HV := Lib.hid (HV.out.grow hB)
  replace HZ := Lib.hid (HZ.out.below hB)
  replace HX := Lib.hid (HX.out.grow hB)
  replace HY := Lib.hid (HY.out.grow hB)
  replace HYa := Lib.hid (HYa.out.below hB)
  replace HQ1 := Lib.hid (HQ1.out.grow hB)
  replace HQa := Lib.hid (HQa.out.below hB)
  replace HA1 := Lib.hid (HA1.out.below hB)
  replace HB := Lib.hid (HB.out.trans (hB.mono HB.out.size))
  replace HFR := Lib.hid (fun b h => HFR.out b (Nat.le_trans hB.size h))
  clear hB
  have cHZ := HZ.out.2.1
  have cHYa := HYa.out.2.1
  have cHQa := HQa.out.2.1
  go_wp2_with fail
  refine (kind_calls _ _ _ HQ1.out).mono ?_
  clear cHZ cHYa cHQa
  rintro e W16 ⟨rfl, hB⟩
  replace HT := Lib.hid (fun j hj => keep_below hB _ _ (HT.out j hj))
  replace HS1 := Lib.hid (HS1.out.below hB)
  replace HTS := Lib.hid (HTS.out.below hB)
  replace HV := Lib.hid (HV.out.grow hB)
  replace HZ := Lib.hid (HZ.out.below hB)
  replace HX := Lib.hid (HX.out.grow hB)
  replace HY := Lib.hid (HY.out.grow hB)
  replace HYa := Lib.hid (HYa.out.below hB)
  replace HQ1 := Lib.hid (HQ1.out.grow hB)
  replace HQa := Lib.hid (HQa.out.below hB)
  replace HA1 := Lib.hid (HA1.out.below hB)
  replace HB := Lib.hid (HB.out.trans (hB.mono HB.out.size))
  replace HFR := Lib.hid (fun b h => HFR.out b (Nat.le_trans hB.size h))
  rw [HSK.out]
  clear hB
  have cHZ := HZ.out.2.1
  have cHYa := HYa.out.2.1
  have cHQa := HQa.out.2.1
  go_wp2_with fail
  refine (Calls.grow_same (rleast_calls _ t _ HTS.out HMM.out HN.out)).mono ?_
  clear cHZ cHYa cHQa
  rintro e W17 ⟨rfl, hB⟩
  replace HT := Lib.hid (fun j hj => keep_below hB _ _ (HT.out j hj))
  replace HS1 := Lib.hid (HS1.out.below hB)
  replace HTS := Lib.hid (HTS.out.below hB)
  replace HV := Lib.hid (HV.out.grow hB)
  replace HZ := Lib.hid (HZ.out.below hB)
  replace HX := Lib.hid (HX.out.grow hB)
  replace HY := Lib.hid (HY.out.grow hB)
  replace HYa := Lib.hid (HYa.out.below hB)
  replace HQ1 := Lib.hid (HQ1.out.grow hB)
  replace HQa := Lib.hid (HQa.out.below hB)
  replace HA1 := Lib.hid (HA1.out.below hB)
  replace HB := Lib.hid (HB.out.trans (hB.mono HB.out.size))
  replace HFR := Lib.hid (fun b h => HFR.out b (Nat.le_trans hB.size h))
  rw [HQ.out]
  clear hB
  have cHZ := HZ.out.2.1
  have cHYa := HYa.out.2.1
  have cHQa := HQa.out.2.1
  go_wp2_with fail
  refine (least_calls _ _ _ HY.out HO2.out HN2.out HT.out).mono ?_
  clear cHZ cHYa cHQa
  rintro e W18 ⟨rfl, hB⟩
  replace HT := Lib.hid (fun j hj => keep_below hB _ _ (HT.out j hj))
  replace HS1 := Lib.hid (HS1.out.below hB)
  replace HTS := Lib.hid (HTS.out.below hB)
  replace HV := Lib.hid (HV.out.grow hB)
  replace HZ := Lib.hid (HZ.out.below hB)
  replace HX := Lib.hid (HX.out.grow hB)
  replace HY := Lib.hid (HY.out.grow hB)
  replace HYa := Lib.hid (HYa.out.below hB)
  replace HQ1 := Lib.hid (HQ1.out.grow hB)
  replace HQa := Lib.hid (HQa.out.below hB)
  replace HA1 := Lib.hid (HA1.out.below hB)
  replace HB := Lib.hid (HB.out.trans (hB.mono HB.out.size))
  replace HFR := Lib.hid (fun b h => HFR.out b (Nat.le_trans hB.size h))
  rw [HL2.out]
  clear hB
  have cHZ := HZ.out.2.1
  have cHYa := HYa.out.2.1
  have cHQa := HQa.out.2.1
  go_wp2_with fail
  refine (Calls.grow_same (rleast_calls _ t _ HTS.out HMM.out HN.out)).mono ?_
  clear cHZ cHYa cHQa
  rintro e W19 ⟨rfl, hB⟩
  replace HT := Lib.hid (fun j hj => keep_below hB _ _ (HT.out j hj))
  replace HS1 := Lib.hid (HS1.out.below hB)
  replace HTS := Lib.hid (HTS.out.below hB)
  replace HV := Lib.hid (HV.out.grow hB)
  replace HZ := Lib.hid (HZ.out.below hB)
  replace HX := Lib.hid (HX.out.grow hB)
  replace HY := Lib.hid (HY.out.grow hB)
  replace HYa := Lib.hid (HYa.out.below hB)
  replace HQ1 := Lib.hid (HQ1.out.grow hB)
  replace HQa := Lib.hid (HQa.out.below hB)
  replace HA1 := Lib.hid (HA1.out.below hB)
  replace HB := Lib.hid (HB.out.trans (hB.mono HB.out.size))
  replace HFR := Lib.hid (fun b h => HFR.out b (Nat.le_trans hB.size h))
  rw [HQ.out]
  clear hB
  have cHZ := HZ.out.2.1
  have cHYa := HYa.out.2.1
  have cHQa := HQa.out.2.1
  go_wp2_with fail
  refine (vnums_calls _ _ _ HQ1.out HSQ.out.2.2.2.1 HT.out).mono ?_
  clear cHZ cHYa cHQa
  rintro e W20 ⟨vA2, rfl, hs, hB⟩
  replace HT := Lib.hid (fun j hj => keep_below hB _ _ (HT.out j hj))
  replace HS1 := Lib.hid (HS1.out.below hB)
  replace HTS := Lib.hid (HTS.out.below hB)
  replace HV := Lib.hid (HV.out.grow hB)
  replace HZ := Lib.hid (HZ.out.below hB)
  replace HX := Lib.hid (HX.out.grow hB)
  replace HY := Lib.hid (HY.out.grow hB)
  replace HYa := Lib.hid (HYa.out.below hB)
  replace HQ1 := Lib.hid (HQ1.out.grow hB)
  replace HQa := Lib.hid (HQa.out.below hB)
  replace HA1 := Lib.hid (HA1.out.below hB)
  replace HB := Lib.hid (HB.out.trans (hB.mono HB.out.size))
  replace HFR := Lib.hid (fun b h => HFR.out b (Nat.le_trans hB.size h))
  have HA2 := Lib.hid (show Slc W20 _ vA2 t.length (f64s t) from by have := hs.any; rw [HSM.out] at this; exact this)
  clear hs
  clear hB
  have cHZ := HZ.out.2.1
  have cHYa := HYa.out.2.1
  have cHQa := HQa.out.2.1
  go_wp2_with fail
  refine (floats_same _ _ t _ HA2.out HTS.out HML.out HN.out).mono ?_
  clear cHZ cHYa cHQa
  rintro e W21 ⟨rfl, hB⟩
  replace HT := Lib.hid (fun j hj => keep_below hB _ _ (HT.out j hj))
  replace HS1 := Lib.hid (HS1.out.below hB)
  replace HTS := Lib.hid (HTS.out.below hB)
  replace HV := Lib.hid (HV.out.grow hB)
  replace HZ := Lib.hid (HZ.out.below hB)
  replace HX := Lib.hid (HX.out.grow hB)
  replace HY := Lib.hid (HY.out.grow hB)
  replace HYa := Lib.hid (HYa.out.below hB)
  replace HQ1 := Lib.hid (HQ1.out.grow hB)
  replace HQa := Lib.hid (HQa.out.below hB)
  replace HA1 := Lib.hid (HA1.out.below hB)
  replace HA2 := Lib.hid (HA2.out.below hB)
  replace HB := Lib.hid (HB.out.trans (hB.mono HB.out.size))
  replace HFR := Lib.hid (fun b h => HFR.out b (Nat.le_trans hB.size h))
  clear hB
  have cHZ := HZ.out.2.1
  have cHYa := HYa.out.2.1
  have cHQa := HQa.out.2.1
  go_wp2_with fail
  refine (awake5_calls _ HT.out).mono ?_
  clear cHZ cHYa cHQa
  rintro e W22 ⟨rfl, hB⟩
  replace HT := Lib.hid (fun j hj => keep_below hB _ _ (HT.out j hj))
  replace HS1 := Lib.hid (HS1.out.below hB)
  replace HTS := Lib.hid (HTS.out.below hB)
  replace HV := Lib.hid (HV.out.grow hB)
  replace HZ := Lib.hid (HZ.out.below hB)
  replace HX := Lib.hid (HX.out.grow hB)
  replace HY := Lib.hid (HY.out.grow hB)
  replace HYa := Lib.hid (HYa.out.below hB)
  replace HQ1 := Lib.hid (HQ1.out.grow hB)
  replace HQa := Lib.hid (HQa.out.below hB)
  replace HA1 := Lib.hid (HA1.out.below hB)
  replace HA2 := Lib.hid (HA2.out.below hB)
  replace HB := Lib.hid (HB.out.trans (hB.mono HB.out.size))
  replace HFR := Lib.hid (fun b h => HFR.out b (Nat.le_trans hB.size h))
  clear hB
  have cHZ := HZ.out.2.1
  have cHYa := HYa.out.2.1
  have cHQa := HQa.out.2.1
  go_wp2
  go_ret
  exact ⟨rfl, HB.out⟩
set_option maxHeartbeats 8000000 in
theorem sqInto_yn (w : World) (v1 : Value) (l : List Nat) (kind : Int) (fro : Int) (HS1 : Hid (Slc w (fun _ => True) v1 l.length (f64s l))) (HT : Hid (TabAt w)) (hl1 : l.length ≤ 500) (HF : Hid (∀ x ∈ l, Fnt x))
    (h1 : (decide ((leastW (l.map ze) : Int) ≤ fro) && decide (fro ≤ 4)) = true) (h2 : (decide ((leastW (l.map ze) : Int) ≤ kind) && decide (kind ≤ 4)) = false) :
    Calls Tryd.prog 4 #[v1, .int .i64 kind, .int .i64 fro] w fun e w' => e = .returned (.bool true) ∧ Below w.heap.size w w' := by
  have HL := Lib.hid (show l.length ≤ 2000000 by omega)
  have HLm := Lib.hid (show l.length ≤ 1048576 by omega)
  obtain ⟨t, ht⟩ : ∃ t, l.map ze = t := ⟨_, rfl⟩
  rw [ht] at h1 h2
  have HTE := Lib.hid ht
  have HTL := Lib.hid (show t.length = l.length by rw [← ht, List.length_map])
  have HML := Lib.hid (show t.length ≤ 2000000 by rw [HTL.out]; omega)
  have HMM := Lib.hid (show t.length ≤ 9223372036854775807 by rw [HTL.out]; omega)
  have HOK : Hid ((VV.floats t).ok) := Lib.hid (show t.length ≤ 1048576 by rw [HTL.out]; omega)
  have HN : Hid ((VV.floats t).nm) := Lib.hid (fun x hx => by rw [← ht] at hx; obtain ⟨y, hy, rfl⟩ := List.mem_map.1 hx; exact Fl.ze_num (HF.out y hy))
  have hlw := leastW_le t
  clear ht
  have H1 := Lib.hid h1
  have H2 := Lib.hid h2
  have HF1 := Lib.hid (show (VV.floats t).fit fro = true by rw [VV.fit_eq HOK.out HN.out rfl (show ((leastW t : Nat) : Int) ≤ 4 by omega) (show (4 : Int) ≤ 4 by decide)]; exact h1)
  obtain ⟨V1, hV1⟩ : ∃ V, (VV.floats t).into fro = V := ⟨_, rfl⟩
  have hs := VV.into_spec HOK.out HN.out HF1.out
  rw [hV1] at hs
  have HV1 := Lib.hid hV1
  have HS := Lib.hid hs
  have HM1 := Lib.hid (show V1.nums = t from HS.out.2.1)
  have HC1 := Lib.hid (show V1.cls = 0 from HS.out.2.2.1)
  have HO1 := Lib.hid (show V1.ok from HS.out.2.2.2.1)
  have HN1 := Lib.hid (show V1.nm from HS.out.2.2.2.2.1)
  have HK1 := Lib.hid (show V1.kind = fro from HS.out.1)
  simp only [Bool.and_eq_true, decide_eq_true_eq] at h1
  have hk1 : (leastW t : Int) ≤ fro ∧ fro ≤ 4 := h1
  clear hV1 hs h1
  have HF2 := Lib.hid (show V1.fit kind = false by rw [VV.fit_eq HO1.out HN1.out HC1.out (by rw [HM1.out, HK1.out]; exact hk1.1) (by rw [HK1.out]; exact hk1.2), HM1.out]; exact h2)
  have HV2 := Lib.hid (VV.into_no HF2.out)
  clear h2 hk1 hlw
  have HB := Lib.hid (Below.refl w.heap.size w)
  obtain ⟨ao1, cap1, rfl, _⟩ := HS1.out.opened
  obtain ⟨ok0, hok0⟩ : ∃ o : Nat → Prop, o = fun b => w.heap.size ≤ b := ⟨_, rfl⟩
  have HOKP := Lib.hid (show ∀ b, ok0 b → w.heap.size ≤ b by rw [hok0]; exact fun b h => h)
  have HFR := Lib.hid (show ∀ b, w.heap.size ≤ b → ok0 b by rw [hok0]; exact fun b h => h)
  clear hok0
  go_enter Tryd.func4, Tryd.ntmps4
  go_wp2_with fail
  refine (rtidys_yes _ l _ HS1.out HL.out HF.out).mono ?_
  rintro e W1 ⟨vt, rfl, hs, hB⟩
  replace HT := Lib.hid (fun j hj => keep_below hB _ _ (HT.out j hj))
  replace HS1 := Lib.hid (HS1.out.below hB)
  replace HB := Lib.hid (HB.out.trans (hB.mono HB.out.size))
  replace HFR := Lib.hid (fun b h => HFR.out b (Nat.le_trans hB.size h))
  have HTS := Lib.hid (show Slc W1 _ vt t.length (f64s t) from by have := hs.any; rw [HTE.out] at this; rw [HTL.out]; exact this)
  clear hs
  clear hB
  go_wp2_with fail
  obtain ⟨aot, capt, rfl, _⟩ := HTS.out.opened
  refine (vfloats_yes _ l _ HS1.out HL.out HF.out).mono ?_
  rintro e W2 ⟨u, rfl, hu0, hB⟩
  rw [HTE.out] at hu0
  have hu := hu0.nbk (ok' := fun b => W1.heap.size ≤ b) (fun b _ h => h)
  clear hu0
  have stu := hu.store
  have shu := Lib.hid hu.shape
  have HV := Lib.hid (hu.nbw (ok' := ok0) (fun b _ h => HFR.out b h))
  clear hu
  replace HT := Lib.hid (fun j hj => keep_below hB _ _ (HT.out j hj))
  replace HS1 := Lib.hid (HS1.out.below hB)
  replace HTS := Lib.hid (HTS.out.below hB)
  replace HB := Lib.hid (HB.out.trans (hB.mono HB.out.size))
  replace HFR := Lib.hid (fun b h => HFR.out b (Nat.le_trans hB.size h))
  clear hB
  obtain ⟨W3, hWn⟩ : ∃ X, (W2.alloc (.cells #[u] 27)) = X := ⟨_, rfl⟩
  have hB : Below W2.heap.size W2 W3 := by rw [← hWn]; exact below_new _ _
  have hla : W2.heap.size ≤ W2.heap.size := by omega
  have hlb : W2.heap.size < W3.heap.size := by rw [← hWn]; simp; try omega
  have HZ := Lib.hid (show At1 W3 W2.heap.size (u) by rw [← hWn]; exact At1.new _ (u) 27)
  have GEHZ := Lib.hid (show w.heap.size ≤ W2.heap.size from Nat.le_trans HB.out.size hla)
  obtain ⟨ok1, o1, o2, o3, o4⟩ := ok_step ok0 W2.heap.size W2.heap.size W3.heap.size HFR.out hla hlb
  replace HOKP := Lib.hid (fun b h => HOKP.out b (o1 b h))
  replace HFR := Lib.hid o3
  replace HT := Lib.hid (fun j hj => keep_below hB _ _ (HT.out j hj))
  replace HS1 := Lib.hid (HS1.out.below hB)
  replace HTS := Lib.hid (HTS.out.below hB)
  replace HV := Lib.hid ((HV.out.nbw (fun b hb h => o2 b hb h)).grow hB)
  replace HB := Lib.hid (HB.out.trans (hB.mono HB.out.size))
  have NOHZ := Lib.hid o4
  clear o1 o2 o3 o4
  clear hla hlb hB
  have IOHZ : Hid (IsIface (u)) := Lib.hid (shu.out)
  have cHZ := HZ.out.2.1
  
  have hE1 := hWn
  clear hWn
  go_wp2_with fail
  clear hE1
  refine (Calls.grow_same (rfits_calls _ t fro _ HTS.out HMM.out HN.out)).mono ?_
  clear cHZ
  rintro e W4 ⟨rfl, hB⟩
  replace HT := Lib.hid (fun j hj => keep_below hB _ _ (HT.out j hj))
  replace HS1 := Lib.hid (HS1.out.below hB)
  replace HTS := Lib.hid (HTS.out.below hB)
  replace HV := Lib.hid (HV.out.grow hB)
  replace HZ := Lib.hid (HZ.out.below hB)
  replace HB := Lib.hid (HB.out.trans (hB.mono HB.out.size))
  replace HFR := Lib.hid (fun b h => HFR.out b (Nat.le_trans hB.size h))
  rw [H1.out]
  clear hB
  have cHZ := HZ.out.2.1
  have fHZ := HZ.out.2.2 0
  go_wp2_with fail
  clear fHZ
  refine (sinto_calls _ _ _ _ HV.out HOK.out HN.out HT.out).mono ?_
  clear cHZ
  rintro e W5 ⟨x, rfl, hu, hB⟩
  rw [HF1.out]
  rw [HV1.out] at hu
  have stx := hu.store
  have shx := Lib.hid hu.shape
  have HX := Lib.hid (hu.nbw (ok' := ok1) (fun b _ h => h.elim id (HFR.out b)))
  clear hu
  replace HT := Lib.hid (fun j hj => keep_below hB _ _ (HT.out j hj))
  replace HS1 := Lib.hid (HS1.out.below hB)
  replace HTS := Lib.hid (HTS.out.below hB)
  replace HV := Lib.hid (HV.out.grow hB)
  replace HZ := Lib.hid (HZ.out.below hB)
  replace HB := Lib.hid (HB.out.trans (hB.mono HB.out.size))
  replace HFR := Lib.hid (fun b h => HFR.out b (Nat.le_trans hB.size h))
  clear hB
  have cHZ := HZ.out.2.1
  have fHZ := HZ.out.2.2 0
  go_wp2_with fail
  clear fHZ
  obtain ⟨W6, hWn⟩ : ∃ X, W5.setCell ⟨W2.heap.size, 0, none⟩ (x) = X := ⟨_, rfl⟩
  have cHZ0 := HZ.out.2.1
  clear cHZ
  have hg : W5.grownBy W6 (some W2.heap.size) := by rw [← hWn]; exact grown_setCell _ _ _
  have hz : W6.heap.size = W5.heap.size := by rw [← hWn]; simp
  replace HT := Lib.hid (show TabAt W6 by rw [← hWn]; exact TabAt.setc HT.out cHZ0 IOHZ.out _)
  replace HS1 := Lib.hid (by have hq := Slc.setc HS1.out cHZ0 (by intro z hz; (first | (simp only [f64s, List.mem_map] at hz) | (simp only [i8s, List.mem_map] at hz) | (simp only [i32s, List.mem_map] at hz) | (simp only [Go.Proofs.YtnicoddkbcfijaaDoor.ints, List.mem_map] at hz) | (simp only [u64s, List.mem_map] at hz)); obtain ⟨q, _, rfl⟩ := hz; first | exact IOHZ.out.ne_int _ _ | exact IOHZ.out.ne_float _ _) (x); rw [hWn] at hq; exact hq)
  replace HTS := Lib.hid (by have hq := Slc.setc HTS.out cHZ0 (by intro z hz; (first | (simp only [f64s, List.mem_map] at hz) | (simp only [i8s, List.mem_map] at hz) | (simp only [i32s, List.mem_map] at hz) | (simp only [Go.Proofs.YtnicoddkbcfijaaDoor.ints, List.mem_map] at hz) | (simp only [u64s, List.mem_map] at hz)); obtain ⟨q, _, rfl⟩ := hz; first | exact IOHZ.out.ne_int _ _ | exact IOHZ.out.ne_float _ _) (x); rw [hWn] at hq; exact hq)
  replace HV := Lib.hid (show IsV W6 _ _ _ by rw [← hWn]; exact HV.out.setw cHZ0 IOHZ.out NOHZ.out _)
  replace HX := Lib.hid (show IsV W6 _ _ _ by rw [← hWn]; exact HX.out.setw cHZ0 IOHZ.out NOHZ.out _)
  replace HZ := Lib.hid (show At1 W6 W2.heap.size (x) by rw [← hWn]; exact HZ.out.set _)
  replace IOHZ : Hid (IsIface (x)) := Lib.hid (shx.out)
  replace HB := Lib.hid (show Below w.heap.size w W6 by rw [← hWn]; exact HB.out.setCell GEHZ.out _)
  replace HFR := Lib.hid (fun b h => HFR.out b (by rw [← hz]; exact h))
  have cHZ := HZ.out.2.1
  rw [hWn]
  clear hWn hg hz cHZ0
  refine (kind_calls _ _ _ HX.out).mono ?_
  clear cHZ
  rintro e W7 ⟨rfl, hB⟩
  replace HT := Lib.hid (fun j hj => keep_below hB _ _ (HT.out j hj))
  replace HS1 := Lib.hid (HS1.out.below hB)
  replace HTS := Lib.hid (HTS.out.below hB)
  replace HV := Lib.hid (HV.out.grow hB)
  replace HZ := Lib.hid (HZ.out.below hB)
  replace HX := Lib.hid (HX.out.grow hB)
  replace HB := Lib.hid (HB.out.trans (hB.mono HB.out.size))
  replace HFR := Lib.hid (fun b h => HFR.out b (Nat.le_trans hB.size h))
  rw [HK1.out]
  clear hB
  have cHZ := HZ.out.2.1
  go_wp2_with fail
  refine (sinto_calls _ _ _ _ HX.out HO1.out HN1.out HT.out).mono ?_
  clear cHZ
  rintro e W8 ⟨y, rfl, hu, hB⟩
  rw [HF2.out]
  rw [HV2.out] at hu
  have sty := hu.store
  have shy := Lib.hid hu.shape
  have HY := Lib.hid (hu.nbw (ok' := ok1) (fun b _ h => h.elim id (HFR.out b)))
  clear hu
  replace HT := Lib.hid (fun j hj => keep_below hB _ _ (HT.out j hj))
  replace HS1 := Lib.hid (HS1.out.below hB)
  replace HTS := Lib.hid (HTS.out.below hB)
  replace HV := Lib.hid (HV.out.grow hB)
  replace HZ := Lib.hid (HZ.out.below hB)
  replace HX := Lib.hid (HX.out.grow hB)
  replace HB := Lib.hid (HB.out.trans (hB.mono HB.out.size))
  replace HFR := Lib.hid (fun b h => HFR.out b (Nat.le_trans hB.size h))
  clear hB
  have cHZ := HZ.out.2.1
  have shn : IsIface y := shy.out
  have hy0 : y = .nilIface := by cases HY.out; rfl
  subst hy0
  obtain ⟨W9, hWn⟩ : ∃ X, (W8.alloc (.cells #[.nilIface] 27)) = X := ⟨_, rfl⟩
  have hB : Below W8.heap.size W8 W9 := by rw [← hWn]; exact below_new _ _
  have hla : W8.heap.size ≤ W8.heap.size := by omega
  have hlb : W8.heap.size < W9.heap.size := by rw [← hWn]; simp; try omega
  have HYa := Lib.hid (show At1 W9 W8.heap.size (.nilIface) by rw [← hWn]; exact At1.new _ (.nilIface) 27)
  clear cHZ
  have NEHZHYa := Lib.hid (show W2.heap.size ≠ W8.heap.size by have := HZ.out.1; omega)
  have GEHYa := Lib.hid (show w.heap.size ≤ W8.heap.size from Nat.le_trans HB.out.size hla)
  obtain ⟨ok2, o1, o2, o3, o4⟩ := ok_step ok1 W8.heap.size W8.heap.size W9.heap.size HFR.out hla hlb
  replace HOKP := Lib.hid (fun b h => HOKP.out b (o1 b h))
  replace HFR := Lib.hid o3
  replace NOHZ := Lib.hid (fun h => NOHZ.out (o1 _ h))
  replace HT := Lib.hid (fun j hj => keep_below hB _ _ (HT.out j hj))
  replace HS1 := Lib.hid (HS1.out.below hB)
  replace HTS := Lib.hid (HTS.out.below hB)
  replace HV := Lib.hid ((HV.out.nbw (fun b hb h => o2 b hb h)).grow hB)
  replace HZ := Lib.hid (HZ.out.below hB)
  replace HX := Lib.hid ((HX.out.nbw (fun b hb h => o2 b hb h)).grow hB)
  replace HY := Lib.hid ((HY.out.nbw (fun b hb h => o2 b hb h)).grow hB)
  replace HB := Lib.hid (HB.out.trans (hB.mono HB.out.size))
  have NOHYa := Lib.hid o4
  clear o1 o2 o3 o4
  clear hla hlb hB
  have IOHYa : Hid (IsIface (.nilIface)) := Lib.hid (.inl rfl)
  have cHZ := HZ.out.2.1
  have cHYa := HYa.out.2.1
  
  have hE1 := hWn
  clear hWn
  have fHYa := HYa.out.2.2 0
  go_wp2_with fail
  clear hE1 fHYa
  obtain ⟨W10, hWn⟩ : ∃ X, W9.setCell ⟨W8.heap.size, 0, none⟩ (.nilIface) = X := ⟨_, rfl⟩
  have cHYa0 := HYa.out.2.1
  clear cHZ cHYa
  have hg : W9.grownBy W10 (some W8.heap.size) := by rw [← hWn]; exact grown_setCell _ _ _
  have hz : W10.heap.size = W9.heap.size := by rw [← hWn]; simp
  replace HT := Lib.hid (show TabAt W10 by rw [← hWn]; exact TabAt.setc HT.out cHYa0 IOHYa.out _)
  replace HS1 := Lib.hid (by have hq := Slc.setc HS1.out cHYa0 (by intro z hz; (first | (simp only [f64s, List.mem_map] at hz) | (simp only [i8s, List.mem_map] at hz) | (simp only [i32s, List.mem_map] at hz) | (simp only [Go.Proofs.YtnicoddkbcfijaaDoor.ints, List.mem_map] at hz) | (simp only [u64s, List.mem_map] at hz)); obtain ⟨q, _, rfl⟩ := hz; first | exact IOHYa.out.ne_int _ _ | exact IOHYa.out.ne_float _ _) (.nilIface); rw [hWn] at hq; exact hq)
  replace HTS := Lib.hid (by have hq := Slc.setc HTS.out cHYa0 (by intro z hz; (first | (simp only [f64s, List.mem_map] at hz) | (simp only [i8s, List.mem_map] at hz) | (simp only [i32s, List.mem_map] at hz) | (simp only [Go.Proofs.YtnicoddkbcfijaaDoor.ints, List.mem_map] at hz) | (simp only [u64s, List.mem_map] at hz)); obtain ⟨q, _, rfl⟩ := hz; first | exact IOHYa.out.ne_int _ _ | exact IOHYa.out.ne_float _ _) (.nilIface); rw [hWn] at hq; exact hq)
  replace HV := Lib.hid (show IsV W10 _ _ _ by rw [← hWn]; exact HV.out.setw cHYa0 IOHYa.out NOHYa.out _)
  replace HZ := Lib.hid (HZ.out.grown hg (fun e => NEHZHYa.out (Option.some.inj e)))
  replace HX := Lib.hid (show IsV W10 _ _ _ by rw [← hWn]; exact HX.out.setw cHYa0 IOHYa.out NOHYa.out _)
  replace HY := Lib.hid (show IsV W10 _ _ _ by rw [← hWn]; exact HY.out.setw cHYa0 IOHYa.out NOHYa.out _)
  replace HYa := Lib.hid (show At1 W10 W8.heap.size (.nilIface) by rw [← hWn]; exact HYa.out.set _)
  replace IOHYa : Hid (IsIface (.nilIface)) := Lib.hid (.inl rfl)
  replace HB := Lib.hid (show Below w.heap.size w W10 by rw [← hWn]; exact HB.out.setCell GEHYa.out _)
  replace HFR := Lib.hid (fun b h => HFR.out b (by rw [← hz]; exact h))
  have cHZ := HZ.out.2.1
  have cHYa := HYa.out.2.1
  rw [hWn]
  clear hWn hg hz cHYa0
  refine (Calls.grow_same (rfits_calls _ t kind _ HTS.out HMM.out HN.out)).mono ?_
  clear cHZ cHYa
  rintro e W11 ⟨rfl, hB⟩
  replace HT := Lib.hid (fun j hj => keep_below hB _ _ (HT.out j hj))
  replace HS1 := Lib.hid (HS1.out.below hB)
  replace HTS := Lib.hid (HTS.out.below hB)
  replace HV := Lib.hid (HV.out.grow hB)
  replace HZ := Lib.hid (HZ.out.below hB)
  replace HX := Lib.hid (HX.out.grow hB)
  replace HY := Lib.hid (HY.out.grow hB)
  replace HYa := Lib.hid (HYa.out.below hB)
  replace HB := Lib.hid (HB.out.trans (hB.mono HB.out.size))
  replace HFR := Lib.hid (fun b h => HFR.out b (Nat.le_trans hB.size h))
  rw [H2.out]
  clear hB
  have cHZ := HZ.out.2.1
  have cHYa := HYa.out.2.1
  go_wp2_with fail
  refine (kind_calls _ _ _ (.none (ok := fun _ => True))).mono ?_
  clear cHZ cHYa
  rintro e W12 ⟨rfl, hB⟩
  replace HT := Lib.hid (fun j hj => keep_below hB _ _ (HT.out j hj))
  replace HS1 := Lib.hid (HS1.out.below hB)
  replace HTS := Lib.hid (HTS.out.below hB)
  replace HV := Lib.hid (HV.out.grow hB)
  replace HZ := Lib.hid (HZ.out.below hB)
  replace HX := Lib.hid (HX.out.grow hB)
  replace HY := Lib.hid (HY.out.grow hB)
  replace HYa := Lib.hid (HYa.out.below hB)
  replace HB := Lib.hid (HB.out.trans (hB.mono HB.out.size))
  replace HFR := Lib.hid (fun b h => HFR.out b (Nat.le_trans hB.size h))
  clear hB
  have cHZ := HZ.out.2.1
  have cHYa := HYa.out.2.1
  go_wp2_with fail
  refine (awake5_calls _ HT.out).mono ?_
  clear cHZ cHYa
  rintro e W13 ⟨rfl, hB⟩
  replace HT := Lib.hid (fun j hj => keep_below hB _ _ (HT.out j hj))
  replace HS1 := Lib.hid (HS1.out.below hB)
  replace HTS := Lib.hid (HTS.out.below hB)
  replace HV := Lib.hid (HV.out.grow hB)
  replace HZ := Lib.hid (HZ.out.below hB)
  replace HX := Lib.hid (HX.out.grow hB)
  replace HY := Lib.hid (HY.out.grow hB)
  replace HYa := Lib.hid (HYa.out.below hB)
  replace HB := Lib.hid (HB.out.trans (hB.mono HB.out.size))
  replace HFR := Lib.hid (fun b h => HFR.out b (Nat.le_trans hB.size h))
  clear hB
  have cHZ := HZ.out.2.1
  have cHYa := HYa.out.2.1
  go_wp2
  go_ret
  exact ⟨rfl, HB.out⟩
end Go.Proofs.YtnicoddkbcfijaaDoor

/- SqueezeLeast, walked. -/
import Derived.Test.YtnicoddkbcfijaaDoorSqF
namespace Go.Proofs.YtnicoddkbcfijaaDoor
open Go.RowKit Fl
set_option linter.unusedVariables false
set_option maxRecDepth 8000

set_option maxHeartbeats 8000000 in
theorem sqLeast_yes (w : World) (v1 : Value) (l : List Nat) (HS1 : Hid (Slc w (fun _ => True) v1 l.length (f64s l))) (HT : Hid (TabAt w)) (hl1 : l.length ≤ 500) (HF : Hid (∀ x ∈ l, Fnt x)) :
    Calls Tryd.prog 3 #[v1] w fun e w' => e = .returned (.bool true) ∧ Below w.heap.size w w' := by
  have HL := Lib.hid (show l.length ≤ 2000000 by omega)
  have HLm := Lib.hid (show l.length ≤ 1048576 by omega)
  obtain ⟨t, ht⟩ : ∃ t, l.map ze = t := ⟨_, rfl⟩
  have HTE := Lib.hid ht
  have HTL := Lib.hid (show t.length = l.length by rw [← ht, List.length_map])
  have HOK : Hid ((VV.floats t).ok) := Lib.hid (show t.length ≤ 1048576 by rw [HTL.out]; omega)
  have HN : Hid ((VV.floats t).nm) := Lib.hid (fun x hx => by rw [← ht] at hx; obtain ⟨y, hy, rfl⟩ := List.mem_map.1 hx; exact Fl.ze_num (HF.out y hy))
  clear ht
  have HB := Lib.hid (Below.refl w.heap.size w)
  obtain ⟨ao1, cap1, rfl, _⟩ := HS1.out.opened
  obtain ⟨ok0, hok0⟩ : ∃ o : Nat → Prop, o = fun b => w.heap.size ≤ b := ⟨_, rfl⟩
  have HOKP := Lib.hid (show ∀ b, ok0 b → w.heap.size ≤ b by rw [hok0]; exact fun b h => h)
  have HFR := Lib.hid (show ∀ b, w.heap.size ≤ b → ok0 b by rw [hok0]; exact fun b h => h)
  clear hok0
  go_enter Tryd.func3, Tryd.ntmps3
  go_wp2_with fail
  refine (rtidys_yes _ l _ HS1.out HL.out HF.out).mono ?_
  rintro e W1 ⟨vt, rfl, hs, hB⟩
  replace HT := Lib.hid (fun j hj => keep_below hB _ _ (HT.out j hj))
  replace HS1 := Lib.hid (HS1.out.below hB)
  replace HB := Lib.hid (HB.out.trans (hB.mono HB.out.size))
  replace HFR := Lib.hid (fun b h => HFR.out b (Nat.le_trans hB.size h))
  have HTS := Lib.hid (show Slc W1 _ vt t.length (f64s t) from by have := hs.any; rw [HTE.out] at this; rw [HTL.out]; exact this)
  clear hs
  clear hB
  go_wp2_with fail
  obtain ⟨aot, capt, rfl, _⟩ := HTS.out.opened
  refine (vfloats_yes _ l _ HS1.out HL.out HF.out).mono ?_
  rintro e W2 ⟨u, rfl, hu0, hB⟩
  rw [HTE.out] at hu0
  have hu := hu0.nbk (ok' := fun b => W1.heap.size ≤ b) (fun b _ h => h)
  clear hu0
  have stu := hu.store
  have shu := Lib.hid hu.shape
  have HV := Lib.hid (hu.nbw (ok' := ok0) (fun b _ h => HFR.out b h))
  clear hu
  replace HT := Lib.hid (fun j hj => keep_below hB _ _ (HT.out j hj))
  replace HS1 := Lib.hid (HS1.out.below hB)
  replace HTS := Lib.hid (HTS.out.below hB)
  replace HB := Lib.hid (HB.out.trans (hB.mono HB.out.size))
  replace HFR := Lib.hid (fun b h => HFR.out b (Nat.le_trans hB.size h))
  clear hB
  obtain ⟨W3, hWn⟩ : ∃ X, (W2.alloc (.cells #[u] 27)) = X := ⟨_, rfl⟩
  have hB : Below W2.heap.size W2 W3 := by rw [← hWn]; exact below_new _ _
  have hla : W2.heap.size ≤ W2.heap.size := by omega
  have hlb : W2.heap.size < W3.heap.size := by rw [← hWn]; simp; try omega
  have HZ := Lib.hid (show At1 W3 W2.heap.size (u) by rw [← hWn]; exact At1.new _ (u) 27)
  have GEHZ := Lib.hid (show w.heap.size ≤ W2.heap.size from Nat.le_trans HB.out.size hla)
  obtain ⟨ok1, o1, o2, o3, o4⟩ := ok_step ok0 W2.heap.size W2.heap.size W3.heap.size HFR.out hla hlb
  replace HOKP := Lib.hid (fun b h => HOKP.out b (o1 b h))
  replace HFR := Lib.hid o3
  replace HT := Lib.hid (fun j hj => keep_below hB _ _ (HT.out j hj))
  replace HS1 := Lib.hid (HS1.out.below hB)
  replace HTS := Lib.hid (HTS.out.below hB)
  replace HV := Lib.hid ((HV.out.nbw (fun b hb h => o2 b hb h)).grow hB)
  replace HB := Lib.hid (HB.out.trans (hB.mono HB.out.size))
  have NOHZ := Lib.hid o4
  clear o1 o2 o3 o4
  clear hla hlb hB
  have IOHZ : Hid (IsIface (u)) := Lib.hid (shu.out)
  have cHZ := HZ.out.2.1
  
  have hE1 := hWn
  clear hWn
  go_wp2_with fail
  clear hE1
  refine (numbers_yes _ l _ HS1.out HLm.out HF.out HT.out).mono ?_
  clear cHZ
  rintro e W4 ⟨y, rfl, hu, hB⟩
  rw [HTE.out] at hu
  have sty := hu.store
  have shy := Lib.hid hu.shape
  have HY := Lib.hid (hu.nbw (ok' := ok1) (fun b _ h => HFR.out b h))
  clear hu
  replace HT := Lib.hid (fun j hj => keep_below hB _ _ (HT.out j hj))
  replace HS1 := Lib.hid (HS1.out.below hB)
  replace HTS := Lib.hid (HTS.out.below hB)
  replace HV := Lib.hid (HV.out.grow hB)
  replace HZ := Lib.hid (HZ.out.below hB)
  replace HB := Lib.hid (HB.out.trans (hB.mono HB.out.size))
  replace HFR := Lib.hid (fun b h => HFR.out b (Nat.le_trans hB.size h))
  clear hB
  have cHZ := HZ.out.2.1
  obtain ⟨W5, hWn⟩ : ∃ X, (W4.alloc (.cells #[y] 27)) = X := ⟨_, rfl⟩
  have hB : Below W4.heap.size W4 W5 := by rw [← hWn]; exact below_new _ _
  have hla : W4.heap.size ≤ W4.heap.size := by omega
  have hlb : W4.heap.size < W5.heap.size := by rw [← hWn]; simp; try omega
  have HYa := Lib.hid (show At1 W5 W4.heap.size (y) by rw [← hWn]; exact At1.new _ (y) 27)
  clear cHZ
  have NEHZHYa := Lib.hid (show W2.heap.size ≠ W4.heap.size by have := HZ.out.1; omega)
  have GEHYa := Lib.hid (show w.heap.size ≤ W4.heap.size from Nat.le_trans HB.out.size hla)
  obtain ⟨ok2, o1, o2, o3, o4⟩ := ok_step ok1 W4.heap.size W4.heap.size W5.heap.size HFR.out hla hlb
  replace HOKP := Lib.hid (fun b h => HOKP.out b (o1 b h))
  replace HFR := Lib.hid o3
  replace NOHZ := Lib.hid (fun h => NOHZ.out (o1 _ h))
  replace HT := Lib.hid (fun j hj => keep_below hB _ _ (HT.out j hj))
  replace HS1 := Lib.hid (HS1.out.below hB)
  replace HTS := Lib.hid (HTS.out.below hB)
  replace HV := Lib.hid ((HV.out.nbw (fun b hb h => o2 b hb h)).grow hB)
  replace HZ := Lib.hid (HZ.out.below hB)
  replace HY := Lib.hid ((HY.out.nbw (fun b hb h => o2 b hb h)).grow hB)
  replace HB := Lib.hid (HB.out.trans (hB.mono HB.out.size))
  have NOHYa := Lib.hid o4
  clear o1 o2 o3 o4
  clear hla hlb hB
  have IOHYa : Hid (IsIface (y)) := Lib.hid (shy.out)
  have cHZ := HZ.out.2.1
  have cHYa := HYa.out.2.1
  
  have hE1 := hWn
  clear hWn
  go_wp2_with fail
  clear hE1
  refine (squeeze_calls _ _ _ HV.out HOK.out HN.out HT.out).mono ?_
  clear cHZ cHYa
  rintro e W6 ⟨s, rfl, hu, hB⟩
  have sts := hu.store
  have shs := Lib.hid hu.shape
  have HQ1 := Lib.hid (hu.nbw (ok' := ok2) (fun b _ h => h.elim id (HFR.out b)))
  clear hu
  replace HT := Lib.hid (fun j hj => keep_below hB _ _ (HT.out j hj))
  replace HS1 := Lib.hid (HS1.out.below hB)
  replace HTS := Lib.hid (HTS.out.below hB)
  replace HV := Lib.hid (HV.out.grow hB)
  replace HZ := Lib.hid (HZ.out.below hB)
  replace HY := Lib.hid (HY.out.grow hB)
  replace HYa := Lib.hid (HYa.out.below hB)
  replace HB := Lib.hid (HB.out.trans (hB.mono HB.out.size))
  replace HFR := Lib.hid (fun b h => HFR.out b (Nat.le_trans hB.size h))
  clear hB
  have cHZ := HZ.out.2.1
  have cHYa := HYa.out.2.1
  obtain ⟨W7, hWn⟩ : ∃ X, (W6.alloc (.cells #[s] 27)) = X := ⟨_, rfl⟩
  have hB : Below W6.heap.size W6 W7 := by rw [← hWn]; exact below_new _ _
  have hla : W6.heap.size ≤ W6.heap.size := by omega
  have hlb : W6.heap.size < W7.heap.size := by rw [← hWn]; simp; try omega
  have HQa := Lib.hid (show At1 W7 W6.heap.size (s) by rw [← hWn]; exact At1.new _ (s) 27)
  clear cHZ cHYa
  have NEHZHQa := Lib.hid (show W2.heap.size ≠ W6.heap.size by have := HZ.out.1; omega)
  have NEHYaHQa := Lib.hid (show W4.heap.size ≠ W6.heap.size by have := HYa.out.1; omega)
  have GEHQa := Lib.hid (show w.heap.size ≤ W6.heap.size from Nat.le_trans HB.out.size hla)
  obtain ⟨ok3, o1, o2, o3, o4⟩ := ok_step ok2 W6.heap.size W6.heap.size W7.heap.size HFR.out hla hlb
  replace HOKP := Lib.hid (fun b h => HOKP.out b (o1 b h))
  replace HFR := Lib.hid o3
  replace NOHZ := Lib.hid (fun h => NOHZ.out (o1 _ h))
  replace NOHYa := Lib.hid (fun h => NOHYa.out (o1 _ h))
  replace HT := Lib.hid (fun j hj => keep_below hB _ _ (HT.out j hj))
  replace HS1 := Lib.hid (HS1.out.below hB)
  replace HTS := Lib.hid (HTS.out.below hB)
  replace HV := Lib.hid ((HV.out.nbw (fun b hb h => o2 b hb h)).grow hB)
  replace HZ := Lib.hid (HZ.out.below hB)
  replace HY := Lib.hid ((HY.out.nbw (fun b hb h => o2 b hb h)).grow hB)
  replace HYa := Lib.hid (HYa.out.below hB)
  replace HQ1 := Lib.hid ((HQ1.out.nbw (fun b hb h => o2 b hb h)).grow hB)
  replace HB := Lib.hid (HB.out.trans (hB.mono HB.out.size))
  have NOHQa := Lib.hid o4
  clear o1 o2 o3 o4
  clear hla hlb hB
  have IOHQa : Hid (IsIface (s)) := Lib.hid (shs.out)
  have cHZ := HZ.out.2.1
  have cHYa := HYa.out.2.1
  have cHQa := HQa.out.2.1
  
  have hE1 := hWn
  clear hWn
  go_wp2_with fail
  clear hE1
  obtain ⟨q, hq⟩ : ∃ q : Int, ((leastW t : Nat) : Int) = q := ⟨_, rfl⟩
  have HQ := Lib.hid hq
  obtain ⟨b4, hb4⟩ : ∃ b, (q == 4) = b := ⟨_, rfl⟩
  have HK1 := Lib.hid (show ((VV.floats t).least : Int) = q by rw [VV.least_eq HOK.out HN.out rfl]; exact hq)
  have HK2 := Lib.hid (show (VV.floats t).sq.kind = q by rw [VV.sq_kind HOK.out HN.out rfl]; exact hq)
  have HSQ := Lib.hid (VV.sq_spec HOK.out HN.out)
  have HN2 := Lib.hid (show (VV.floats t).sq.nums = t from HSQ.out.2.1)
  have HT1 := Lib.hid (show decide ((VV.floats t).sq.kind = (VV.floats t).sq.least) = true by rw [HK2.out, VV.least_eq HSQ.out.2.2.2.1 HSQ.out.2.2.2.2.1 HSQ.out.2.2.1, HN2.out, hq]; simp)
  have HT2 := Lib.hid (show decide ((VV.floats t).kind = (VV.floats t).least) = b4 by rw [HK1.out, ← hb4]; show decide ((4 : Int) = q) = (q == 4); rw [Bool.eq_iff_iff]; simp; exact eq_comm)
  have HML := Lib.hid (show t.length ≤ 2000000 by rw [HTL.out]; omega)
  have HMM := Lib.hid (show t.length ≤ 9223372036854775807 by rw [HTL.out]; omega)
  clear hq
  have hcz : True := trivial
  refine wp_region_held_drew (S := fun w' => w'.cell? ⟨W2.heap.size, 0, none⟩ = some (u) ∧ w'.cell? ⟨W4.heap.size, 0, none⟩ = some (y) ∧ w'.cell? ⟨W6.heap.size, 0, none⟩ = some (s)) (by kernel_rfl) ⟨cHZ, cHYa, cHQa⟩ (fun hHeld => ?_)
  obtain ⟨W8, hWn⟩ : ∃ X, W7.drew = X := ⟨_, rfl⟩
  have hB : Below W7.heap.size W7 W8 := by rw [← hWn]; exact Below.drewN' (Below.refl _ _) 1
  clear cHZ cHYa cHQa
  replace HT := Lib.hid (fun j hj => keep_below hB _ _ (HT.out j hj))
  replace HS1 := Lib.hid (HS1.out.below hB)
  replace HTS := Lib.hid (HTS.out.below hB)
  replace HV := Lib.hid (HV.out.grow hB)
  replace HZ := Lib.hid (HZ.out.below hB)
  replace HY := Lib.hid (HY.out.grow hB)
  replace HYa := Lib.hid (HYa.out.below hB)
  replace HQ1 := Lib.hid (HQ1.out.grow hB)
  replace HQa := Lib.hid (HQa.out.below hB)
  replace HB := Lib.hid (HB.out.trans (hB.mono HB.out.size))
  replace HFR := Lib.hid (fun b h => HFR.out b (Nat.le_trans hB.size h))
  rw [hWn] at hHeld ⊢
  clear hB hWn hcz
  have cHZ := HZ.out.2.1
  have cHYa := HYa.out.2.1
  have cHQa := HQa.out.2.1
  refine wpAnyH_take (i := 0) (v := ?_) rfl (by kernel_rfl) (by kernel_rfl) (by kernel_rfl) (fun _ _ _ h => h) (Or.inl ⟨by rfl, ?_⟩) (by assumption) ?_
  rotate_left
  · (intro w hSw; (try dsimp only at hSw); go_simp; try with_reducible rfl)
  simp only [Act.put, List.getElem_toArray, List.getElem_cons_zero, List.setIfInBounds_toArray, List.set_cons_zero, List.set_cons_succ]
  refine wpAnyH_take (i := 2) (v := ?_) rfl (by kernel_rfl) (by kernel_rfl) (by kernel_rfl) (fun _ _ _ h => h) (Or.inl ⟨by rfl, ?_⟩) (by assumption) ?_
  rotate_left
  · (intro w hSw; (try dsimp only at hSw); go_simp; try with_reducible rfl)
  simp only [Act.put, List.getElem_toArray, List.getElem_cons_succ, List.getElem_cons_zero, List.setIfInBounds_toArray, List.set_cons_zero, List.set_cons_succ]
  refine wpAnyH_ready (rs := [1]) (by kernel_rfl) (by simp) ?_
  refine AllReadyH.cons (o := _) rfl (fun K hK => ?_) ?_
  · clear hHeld
    go_simp
    refine (least_calls _ _ _ HV.out HOK.out HN.out HT.out).mono ?_
    clear cHZ cHYa cHQa
    rintro e W9 ⟨rfl, hB⟩
    replace HT := Lib.hid (fun j hj => keep_below hB _ _ (HT.out j hj))
    replace HS1 := Lib.hid (HS1.out.below hB)
    replace HTS := Lib.hid (HTS.out.below hB)
    replace HV := Lib.hid (HV.out.grow hB)
    replace HZ := Lib.hid (HZ.out.below hB)
    replace HY := Lib.hid (HY.out.grow hB)
    replace HYa := Lib.hid (HYa.out.below hB)
    replace HQ1 := Lib.hid (HQ1.out.grow hB)
    replace HQa := Lib.hid (HQa.out.below hB)
    replace HB := Lib.hid (HB.out.trans (hB.mono HB.out.size))
    replace HFR := Lib.hid (fun b h => HFR.out b (Nat.le_trans hB.size h))
    rw [HK1.out]
    clear hB
    have cHZ := HZ.out.2.1
    have cHYa := HYa.out.2.1
    have cHQa := HQa.out.2.1
    refine hK.out _ _ ?_ (fun hHeld => ?_)
    · exact ⟨cHZ, cHYa, cHQa⟩
    clear hK K
    refine wpAnyH_ready (rs := [3]) (by kernel_rfl) (by simp) ?_
    refine AllReadyH.cons (o := _) rfl (fun K hK => ?_) ?_
    · clear hHeld
      go_simp
      refine (Calls.grow_same (rleast_calls _ t _ HTS.out HMM.out HN.out)).mono ?_
      clear cHZ cHYa cHQa
      rintro e W10 ⟨rfl, hB⟩
      replace HT := Lib.hid (fun j hj => keep_below hB _ _ (HT.out j hj))
      replace HS1 := Lib.hid (HS1.out.below hB)
      replace HTS := Lib.hid (HTS.out.below hB)
      replace HV := Lib.hid (HV.out.grow hB)
      replace HZ := Lib.hid (HZ.out.below hB)
      replace HY := Lib.hid (HY.out.grow hB)
      replace HYa := Lib.hid (HYa.out.below hB)
      replace HQ1 := Lib.hid (HQ1.out.grow hB)
      replace HQa := Lib.hid (HQa.out.below hB)
      replace HB := Lib.hid (HB.out.trans (hB.mono HB.out.size))
      replace HFR := Lib.hid (fun b h => HFR.out b (Nat.le_trans hB.size h))
      rw [HQ.out]
      clear hB
      have cHZ := HZ.out.2.1
      have cHYa := HYa.out.2.1
      have cHQa := HQa.out.2.1
      refine hK.out _ _ ?_ (fun hHeld => ?_)
      · exact ⟨cHZ, cHYa, cHQa⟩
      clear hK K
      refine wpAnyH_take (i := 4) (v := ?_) rfl (by kernel_rfl) (by kernel_rfl) (by kernel_rfl) (fun _ _ _ h => h) (Or.inl ⟨by rfl, ?_⟩) (by assumption) ?_
      rotate_left
      · (intro w hSw; (try dsimp only at hSw); go_simp; try with_reducible rfl)
      simp only [Act.put, List.getElem_toArray, List.getElem_cons_succ, List.getElem_cons_zero, List.setIfInBounds_toArray, List.set_cons_zero, List.set_cons_succ]
      refine wpAnyH_take (i := 5) (v := ?_) rfl (by kernel_rfl) (by kernel_rfl) (by kernel_rfl) (fun _ _ _ h => h) (Or.inl ⟨by rfl, ?_⟩) (by assumption) ?_
      rotate_left
      · (intro w hSw; (try dsimp only at hSw); go_simp; try with_reducible rfl)
      simp only [Act.put, List.getElem_toArray, List.getElem_cons_succ, List.getElem_cons_zero, List.setIfInBounds_toArray, List.set_cons_zero, List.set_cons_succ]
      refine wpAnyH_take (i := 6) (v := ?_) rfl (by kernel_rfl) (by kernel_rfl) (by kernel_rfl) (fun _ _ _ h => h) (Or.inl ⟨by rfl, ?_⟩) (by assumption) ?_
      rotate_left
      · (intro w hSw; (try dsimp only at hSw); go_simp; try with_reducible rfl)
      simp only [Act.put, List.getElem_toArray, List.getElem_cons_succ, List.getElem_cons_zero, List.setIfInBounds_toArray, List.set_cons_zero, List.set_cons_succ]
      refine wpAnyH_take (i := 8) (v := ?_) rfl (by kernel_rfl) (by kernel_rfl) (by kernel_rfl) (fun _ _ _ h => h) (Or.inl ⟨by rfl, ?_⟩) (by assumption) ?_
      rotate_left
      · (intro w hSw; (try dsimp only at hSw); go_simp; try with_reducible rfl)
      simp only [Act.put, List.getElem_toArray, List.getElem_cons_succ, List.getElem_cons_zero, List.setIfInBounds_toArray, List.set_cons_zero, List.set_cons_succ]
      refine wpAnyH_ready (rs := [7]) (by kernel_rfl) (by simp) ?_
      refine AllReadyH.cons (o := _) rfl (fun K hK => ?_) ?_
      · clear hHeld
        go_simp
        refine (kind_calls _ _ _ HQ1.out).mono ?_
        clear cHZ cHYa cHQa
        rintro e W11 ⟨rfl, hB⟩
        replace HT := Lib.hid (fun j hj => keep_below hB _ _ (HT.out j hj))
        replace HS1 := Lib.hid (HS1.out.below hB)
        replace HTS := Lib.hid (HTS.out.below hB)
        replace HV := Lib.hid (HV.out.grow hB)
        replace HZ := Lib.hid (HZ.out.below hB)
        replace HY := Lib.hid (HY.out.grow hB)
        replace HYa := Lib.hid (HYa.out.below hB)
        replace HQ1 := Lib.hid (HQ1.out.grow hB)
        replace HQa := Lib.hid (HQa.out.below hB)
        replace HB := Lib.hid (HB.out.trans (hB.mono HB.out.size))
        replace HFR := Lib.hid (fun b h => HFR.out b (Nat.le_trans hB.size h))
        rw [HK2.out]
        clear hB
        have cHZ := HZ.out.2.1
        have cHYa := HYa.out.2.1
        have cHQa := HQa.out.2.1
        refine hK.out _ _ ?_ (fun hHeld => ?_)
        · exact ⟨cHZ, cHYa, cHQa⟩
        clear hK K
        refine wpAnyH_ready (rs := [9]) (by kernel_rfl) (by simp) ?_
        refine AllReadyH.cons (o := _) rfl (fun K hK => ?_) ?_
        · clear hHeld
          go_simp
          refine (Calls.grow_same (rleast_calls _ t _ HTS.out HMM.out HN.out)).mono ?_
          clear cHZ cHYa cHQa
          rintro e W12 ⟨rfl, hB⟩
          replace HT := Lib.hid (fun j hj => keep_below hB _ _ (HT.out j hj))
          replace HS1 := Lib.hid (HS1.out.below hB)
          replace HTS := Lib.hid (HTS.out.below hB)
          replace HV := Lib.hid (HV.out.grow hB)
          replace HZ := Lib.hid (HZ.out.below hB)
          replace HY := Lib.hid (HY.out.grow hB)
          replace HYa := Lib.hid (HYa.out.below hB)
          replace HQ1 := Lib.hid (HQ1.out.grow hB)
          replace HQa := Lib.hid (HQa.out.below hB)
          replace HB := Lib.hid (HB.out.trans (hB.mono HB.out.size))
          replace HFR := Lib.hid (fun b h => HFR.out b (Nat.le_trans hB.size h))
          rw [HQ.out]
          clear hB
          have cHZ := HZ.out.2.1
          have cHYa := HYa.out.2.1
          have cHQa := HQa.out.2.1
          refine hK.out _ _ ?_ (fun hHeld => ?_)
          · exact ⟨cHZ, cHYa, cHQa⟩
          clear hK K
          refine wpAnyH_take (i := 10) (v := ?_) rfl (by kernel_rfl) (by kernel_rfl) (by kernel_rfl) (fun _ _ _ h => h) (Or.inl ⟨by rfl, ?_⟩) (by assumption) ?_
          rotate_left
          · (intro w hSw; (try dsimp only at hSw); go_simp; try with_reducible rfl)
          simp only [Act.put, List.getElem_toArray, List.getElem_cons_succ, List.getElem_cons_zero, List.setIfInBounds_toArray, List.set_cons_zero, List.set_cons_succ]
          refine wpAnyH_take (i := 11) (v := ?_) rfl (by kernel_rfl) (by kernel_rfl) (by kernel_rfl) (fun _ _ _ h => h) (Or.inl ⟨by rfl, ?_⟩) (by assumption) ?_
          rotate_left
          · (intro w hSw; (try dsimp only at hSw); go_simp; try with_reducible rfl)
          simp only [Act.put, List.getElem_toArray, List.getElem_cons_succ, List.getElem_cons_zero, List.setIfInBounds_toArray, List.set_cons_zero, List.set_cons_succ]
          refine wpAnyH_take (i := 12) (v := ?_) rfl (by kernel_rfl) (by kernel_rfl) (by kernel_rfl) (fun _ _ _ h => h) (Or.inl ⟨by rfl, ?_⟩) (by assumption) ?_
          rotate_left
          · (intro w hSw; (try dsimp only at hSw); go_simp; try with_reducible rfl)
          simp only [Act.put, List.getElem_toArray, List.getElem_cons_succ, List.getElem_cons_zero, List.setIfInBounds_toArray, List.set_cons_zero, List.set_cons_succ]
          refine wpAnyH_take (i := 13) (v := ?_) rfl (by kernel_rfl) (by kernel_rfl) (by kernel_rfl) (fun _ _ _ h => h) (Or.inl ⟨by rfl, ?_⟩) (by assumption) ?_
          rotate_left
          · (intro w hSw; (try dsimp only at hSw); go_simp; try with_reducible rfl)
          simp only [Act.put, List.getElem_toArray, List.getElem_cons_succ, List.getElem_cons_zero, List.setIfInBounds_toArray, List.set_cons_zero, List.set_cons_succ]
          refine wpAnyH_take (i := 15) (v := ?_) rfl (by kernel_rfl) (by kernel_rfl) (by kernel_rfl) (fun _ _ _ h => h) (Or.inl ⟨by rfl, ?_⟩) (by assumption) ?_
          rotate_left
          · (intro w hSw; (try dsimp only at hSw); go_simp; try with_reducible rfl)
          simp only [Act.put, List.getElem_toArray, List.getElem_cons_succ, List.getElem_cons_zero, List.setIfInBounds_toArray, List.set_cons_zero, List.set_cons_succ]
          refine wpAnyH_ready (rs := [14]) (by kernel_rfl) (by simp) ?_
          refine AllReadyH.cons (o := _) rfl (fun K hK => ?_) ?_
          · clear hHeld
            go_simp
            refine (kind_calls _ _ _ HY.out).mono ?_
            clear cHZ cHYa cHQa
            rintro e W13 ⟨rfl, hB⟩
            replace HT := Lib.hid (fun j hj => keep_below hB _ _ (HT.out j hj))
            replace HS1 := Lib.hid (HS1.out.below hB)
            replace HTS := Lib.hid (HTS.out.below hB)
            replace HV := Lib.hid (HV.out.grow hB)
            replace HZ := Lib.hid (HZ.out.below hB)
            replace HY := Lib.hid (HY.out.grow hB)
            replace HYa := Lib.hid (HYa.out.below hB)
            replace HQ1 := Lib.hid (HQ1.out.grow hB)
            replace HQa := Lib.hid (HQa.out.below hB)
            replace HB := Lib.hid (HB.out.trans (hB.mono HB.out.size))
            replace HFR := Lib.hid (fun b h => HFR.out b (Nat.le_trans hB.size h))
            rw [HK2.out]
            clear hB
            have cHZ := HZ.out.2.1
            have cHYa := HYa.out.2.1
            have cHQa := HQa.out.2.1
            refine hK.out _ _ ?_ (fun hHeld => ?_)
            · exact ⟨cHZ, cHYa, cHQa⟩
            clear hK K
            refine wpAnyH_ready (rs := [16]) (by kernel_rfl) (by simp) ?_
            refine AllReadyH.cons (o := _) rfl (fun K hK => ?_) ?_
            · clear hHeld
              go_simp
              refine (kind_calls _ _ _ HQ1.out).mono ?_
              clear cHZ cHYa cHQa
              rintro e W14 ⟨rfl, hB⟩
              replace HT := Lib.hid (fun j hj => keep_below hB _ _ (HT.out j hj))
              replace HS1 := Lib.hid (HS1.out.below hB)
              replace HTS := Lib.hid (HTS.out.below hB)
              replace HV := Lib.hid (HV.out.grow hB)
              replace HZ := Lib.hid (HZ.out.below hB)
              replace HY := Lib.hid (HY.out.grow hB)
              replace HYa := Lib.hid (HYa.out.below hB)
              replace HQ1 := Lib.hid (HQ1.out.grow hB)
              replace HQa := Lib.hid (HQa.out.below hB)
              replace HB := Lib.hid (HB.out.trans (hB.mono HB.out.size))
              replace HFR := Lib.hid (fun b h => HFR.out b (Nat.le_trans hB.size h))
              rw [HK2.out]
              clear hB
              have cHZ := HZ.out.2.1
              have cHYa := HYa.out.2.1
              have cHQa := HQa.out.2.1
              refine hK.out _ _ ?_ (fun hHeld => ?_)
              · exact ⟨cHZ, cHYa, cHQa⟩
              clear hK K
              refine wpAnyH_take (i := 17) (v := ?_) rfl (by kernel_rfl) (by kernel_rfl) (by kernel_rfl) (fun _ _ _ h => h) (Or.inl ⟨by rfl, ?_⟩) (by assumption) ?_
              rotate_left
              · (intro w hSw; (try dsimp only at hSw); go_simp; try with_reducible rfl)
              simp only [Act.put, List.getElem_toArray, List.getElem_cons_succ, List.getElem_cons_zero, List.setIfInBounds_toArray, List.set_cons_zero, List.set_cons_succ]
              refine wpAnyH_take (i := 18) (v := ?_) rfl (by kernel_rfl) (by kernel_rfl) (by kernel_rfl) (fun _ _ _ h => h) (Or.inl ⟨by rfl, ?_⟩) (by assumption) ?_
              rotate_left
              · (intro w hSw; (try dsimp only at hSw); go_simp; try with_reducible rfl)
              simp only [Act.put, List.getElem_toArray, List.getElem_cons_succ, List.getElem_cons_zero, List.setIfInBounds_toArray, List.set_cons_zero, List.set_cons_succ]
              refine wpAnyH_take (i := 19) (v := ?_) rfl (by kernel_rfl) (by kernel_rfl) (by kernel_rfl) (fun _ _ _ h => h) (Or.inl ⟨by rfl, ?_⟩) (by assumption) ?_
              rotate_left
              · (intro w hSw; (try dsimp only at hSw); go_simp; try with_reducible rfl)
              simp only [Act.put, List.getElem_toArray, List.getElem_cons_succ, List.getElem_cons_zero, List.setIfInBounds_toArray, List.set_cons_zero, List.set_cons_succ]
              refine wpAnyH_take (i := 20) (v := ?_) rfl (by kernel_rfl) (by kernel_rfl) (by kernel_rfl) (fun _ _ _ h => h) (Or.inl ⟨by rfl, ?_⟩) (by assumption) ?_
              rotate_left
              · (intro w hSw; (try dsimp only at hSw); go_simp; try with_reducible rfl)
              simp only [Act.put, List.getElem_toArray, List.getElem_cons_succ, List.getElem_cons_zero, List.setIfInBounds_toArray, List.set_cons_zero, List.set_cons_succ]
              refine wpAnyH_take (i := 22) (v := ?_) rfl (by kernel_rfl) (by kernel_rfl) (by kernel_rfl) (fun _ _ _ h => h) (Or.inl ⟨by rfl, ?_⟩) (by assumption) ?_
              rotate_left
              · (intro w hSw; (try dsimp only at hSw); go_simp; try with_reducible rfl)
              simp only [Act.put, List.getElem_toArray, List.getElem_cons_succ, List.getElem_cons_zero, List.setIfInBounds_toArray, List.set_cons_zero, List.set_cons_succ]
              refine wpAnyH_ready (rs := [21]) (by kernel_rfl) (by simp) ?_
              refine AllReadyH.cons (o := _) rfl (fun K hK => ?_) ?_
              · clear hHeld
                go_simp
                refine (vnums_calls _ _ _ HQ1.out HSQ.out.2.2.2.1 HT.out).mono ?_
                clear cHZ cHYa cHQa
                rintro e W15 ⟨vHA1, rfl, hs, hB⟩
                replace HT := Lib.hid (fun j hj => keep_below hB _ _ (HT.out j hj))
                replace HS1 := Lib.hid (HS1.out.below hB)
                replace HTS := Lib.hid (HTS.out.below hB)
                replace HV := Lib.hid (HV.out.grow hB)
                replace HZ := Lib.hid (HZ.out.below hB)
                replace HY := Lib.hid (HY.out.grow hB)
                replace HYa := Lib.hid (HYa.out.below hB)
                replace HQ1 := Lib.hid (HQ1.out.grow hB)
                replace HQa := Lib.hid (HQa.out.below hB)
                replace HB := Lib.hid (HB.out.trans (hB.mono HB.out.size))
                replace HFR := Lib.hid (fun b h => HFR.out b (Nat.le_trans hB.size h))
                have HA1 := Lib.hid (show Slc W15 _ vHA1 t.length (f64s t) from by have := hs.any; rw [HN2.out] at this; exact this)
                clear hs
                clear hB
                have cHZ := HZ.out.2.1
                have cHYa := HYa.out.2.1
                have cHQa := HQa.out.2.1
                refine hK.out _ _ ?_ (fun hHeld => ?_)
                · exact ⟨cHZ, cHYa, cHQa⟩
                clear hK K
                refine wpAnyH_ready (rs := [23]) (by kernel_rfl) (by simp) ?_
                refine AllReadyH.cons (o := _) rfl (fun K hK => ?_) ?_
                · clear hHeld
                  go_simp
                  refine (floats_same _ _ t _ HA1.out HTS.out HML.out HN.out).mono ?_
                  clear cHZ cHYa cHQa
                  rintro e W16 ⟨rfl, hB⟩
                  replace HT := Lib.hid (fun j hj => keep_below hB _ _ (HT.out j hj))
                  replace HS1 := Lib.hid (HS1.out.below hB)
                  replace HTS := Lib.hid (HTS.out.below hB)
                  replace HV := Lib.hid (HV.out.grow hB)
                  replace HZ := Lib.hid (HZ.out.below hB)
                  replace HY := Lib.hid (HY.out.grow hB)
                  replace HYa := Lib.hid (HYa.out.below hB)
                  replace HQ1 := Lib.hid (HQ1.out.grow hB)
                  replace HQa := Lib.hid (HQa.out.below hB)
                  replace HA1 := Lib.hid (HA1.out.below hB)
                  replace HB := Lib.hid (HB.out.trans (hB.mono HB.out.size))
                  replace HFR := Lib.hid (fun b h => HFR.out b (Nat.le_trans hB.size h))
                  clear hB
                  have cHZ := HZ.out.2.1
                  have cHYa := HYa.out.2.1
                  have cHQa := HQa.out.2.1
                  refine hK.out _ _ ?_ (fun hHeld => ?_)
                  · exact ⟨cHZ, cHYa, cHQa⟩
                  clear hK K
                  refine wpAnyH_take (i := 24) (v := ?_) rfl (by kernel_rfl) (by kernel_rfl) (by kernel_rfl) (fun _ _ _ h => h) (Or.inl ⟨by rfl, ?_⟩) (by assumption) ?_
                  rotate_left
                  · (intro w hSw; (try dsimp only at hSw); go_simp; try with_reducible rfl)
                  simp only [Act.put, List.getElem_toArray, List.getElem_cons_succ, List.getElem_cons_zero, List.setIfInBounds_toArray, List.set_cons_zero, List.set_cons_succ]
                  refine wpAnyH_take (i := 25) (v := ?_) rfl (by kernel_rfl) (by kernel_rfl) (by kernel_rfl) (fun _ _ _ h => h) (Or.inl ⟨by rfl, ?_⟩) (by assumption) ?_
                  rotate_left
                  · (intro w hSw; (try dsimp only at hSw); go_simp; try with_reducible rfl)
                  simp only [Act.put, List.getElem_toArray, List.getElem_cons_succ, List.getElem_cons_zero, List.setIfInBounds_toArray, List.set_cons_zero, List.set_cons_succ]
                  refine wpAnyH_take (i := 26) (v := ?_) rfl (by kernel_rfl) (by kernel_rfl) (by kernel_rfl) (fun _ _ _ h => h) (Or.inl ⟨by rfl, ?_⟩) (by assumption) ?_
                  rotate_left
                  · (intro w hSw; (try dsimp only at hSw); go_simp; try with_reducible rfl)
                  simp only [Act.put, List.getElem_toArray, List.getElem_cons_succ, List.getElem_cons_zero, List.setIfInBounds_toArray, List.set_cons_zero, List.set_cons_succ]
                  refine wpAnyH_take (i := 28) (v := ?_) rfl (by kernel_rfl) (by kernel_rfl) (by kernel_rfl) (fun _ _ _ h => h) (Or.inl ⟨by rfl, ?_⟩) (by assumption) ?_
                  rotate_left
                  · (intro w hSw; (try dsimp only at hSw); go_simp; try with_reducible rfl)
                  simp only [Act.put, List.getElem_toArray, List.getElem_cons_succ, List.getElem_cons_zero, List.setIfInBounds_toArray, List.set_cons_zero, List.set_cons_succ]
                  refine wpAnyH_ready (rs := [27]) (by kernel_rfl) (by simp) ?_
                  refine AllReadyH.cons (o := _) rfl (fun K hK => ?_) ?_
                  · clear hHeld
                    go_simp
                    refine (vnums_calls _ _ _ HY.out HSQ.out.2.2.2.1 HT.out).mono ?_
                    clear cHZ cHYa cHQa
                    rintro e W17 ⟨vHA2, rfl, hs, hB⟩
                    replace HT := Lib.hid (fun j hj => keep_below hB _ _ (HT.out j hj))
                    replace HS1 := Lib.hid (HS1.out.below hB)
                    replace HTS := Lib.hid (HTS.out.below hB)
                    replace HV := Lib.hid (HV.out.grow hB)
                    replace HZ := Lib.hid (HZ.out.below hB)
                    replace HY := Lib.hid (HY.out.grow hB)
                    replace HYa := Lib.hid (HYa.out.below hB)
                    replace HQ1 := Lib.hid (HQ1.out.grow hB)
                    replace HQa := Lib.hid (HQa.out.below hB)
                    replace HA1 := Lib.hid (HA1.out.below hB)
                    replace HB := Lib.hid (HB.out.trans (hB.mono HB.out.size))
                    replace HFR := Lib.hid (fun b h => HFR.out b (Nat.le_trans hB.size h))
                    have HA2 := Lib.hid (show Slc W17 _ vHA2 t.length (f64s t) from by have := hs.any; rw [HN2.out] at this; exact this)
                    clear hs
                    clear hB
                    have cHZ := HZ.out.2.1
                    have cHYa := HYa.out.2.1
                    have cHQa := HQa.out.2.1
                    refine hK.out _ _ ?_ (fun hHeld => ?_)
                    · exact ⟨cHZ, cHYa, cHQa⟩
                    clear hK K
                    refine wpAnyH_ready (rs := [29]) (by kernel_rfl) (by simp) ?_
                    refine AllReadyH.cons (o := _) rfl (fun K hK => ?_) ?_
                    · clear hHeld
                      go_simp
                      refine (floats_same _ _ t _ HA2.out HTS.out HML.out HN.out).mono ?_
                      clear cHZ cHYa cHQa
                      rintro e W18 ⟨rfl, hB⟩
                      replace HT := Lib.hid (fun j hj => keep_below hB _ _ (HT.out j hj))
                      replace HS1 := Lib.hid (HS1.out.below hB)
                      replace HTS := Lib.hid (HTS.out.below hB)
                      replace HV := Lib.hid (HV.out.grow hB)
                      replace HZ := Lib.hid (HZ.out.below hB)
                      replace HY := Lib.hid (HY.out.grow hB)
                      replace HYa := Lib.hid (HYa.out.below hB)
                      replace HQ1 := Lib.hid (HQ1.out.grow hB)
                      replace HQa := Lib.hid (HQa.out.below hB)
                      replace HA1 := Lib.hid (HA1.out.below hB)
                      replace HA2 := Lib.hid (HA2.out.below hB)
                      replace HB := Lib.hid (HB.out.trans (hB.mono HB.out.size))
                      replace HFR := Lib.hid (fun b h => HFR.out b (Nat.le_trans hB.size h))
                      clear hB
                      have cHZ := HZ.out.2.1
                      have cHYa := HYa.out.2.1
                      have cHQa := HQa.out.2.1
                      refine hK.out _ _ ?_ (fun hHeld => ?_)
                      · exact ⟨cHZ, cHYa, cHQa⟩
                      clear hK K
                      refine wpAnyH_take (i := 30) (v := ?_) rfl (by kernel_rfl) (by kernel_rfl) (by kernel_rfl) (fun _ _ _ h => h) (Or.inl ⟨by rfl, ?_⟩) (by assumption) ?_
                      rotate_left
                      · (intro w hSw; (try dsimp only at hSw); go_simp; try with_reducible rfl)
                      simp only [Act.put, List.getElem_toArray, List.getElem_cons_succ, List.getElem_cons_zero, List.setIfInBounds_toArray, List.set_cons_zero, List.set_cons_succ]
                      refine wpAnyH_take (i := 31) (v := ?_) rfl (by kernel_rfl) (by kernel_rfl) (by kernel_rfl) (fun _ _ _ h => h) (Or.inl ⟨by rfl, ?_⟩) (by assumption) ?_
                      rotate_left
                      · (intro w hSw; (try dsimp only at hSw); go_simp; try with_reducible rfl)
                      simp only [Act.put, List.getElem_toArray, List.getElem_cons_succ, List.getElem_cons_zero, List.setIfInBounds_toArray, List.set_cons_zero, List.set_cons_succ]
                      refine wpAnyH_take (i := 32) (v := ?_) rfl (by kernel_rfl) (by kernel_rfl) (by kernel_rfl) (fun _ _ _ h => h) (Or.inl ⟨by rfl, ?_⟩) (by assumption) ?_
                      rotate_left
                      · (intro w hSw; (try dsimp only at hSw); go_simp; try with_reducible rfl)
                      simp only [Act.put, List.getElem_toArray, List.getElem_cons_succ, List.getElem_cons_zero, List.setIfInBounds_toArray, List.set_cons_zero, List.set_cons_succ]
                      refine wpAnyH_ready (rs := [33]) (by kernel_rfl) (by simp) ?_
                      refine AllReadyH.cons (o := _) rfl (fun K hK => ?_) ?_
                      · clear hHeld
                        go_simp
                        refine (tight_calls _ _ _ HQ1.out HSQ.out.2.2.2.1 HSQ.out.2.2.2.2.1 HT.out).mono ?_
                        clear cHZ cHYa cHQa
                        rintro e W19 ⟨rfl, hB⟩
                        replace HT := Lib.hid (fun j hj => keep_below hB _ _ (HT.out j hj))
                        replace HS1 := Lib.hid (HS1.out.below hB)
                        replace HTS := Lib.hid (HTS.out.below hB)
                        replace HV := Lib.hid (HV.out.grow hB)
                        replace HZ := Lib.hid (HZ.out.below hB)
                        replace HY := Lib.hid (HY.out.grow hB)
                        replace HYa := Lib.hid (HYa.out.below hB)
                        replace HQ1 := Lib.hid (HQ1.out.grow hB)
                        replace HQa := Lib.hid (HQa.out.below hB)
                        replace HA1 := Lib.hid (HA1.out.below hB)
                        replace HA2 := Lib.hid (HA2.out.below hB)
                        replace HB := Lib.hid (HB.out.trans (hB.mono HB.out.size))
                        replace HFR := Lib.hid (fun b h => HFR.out b (Nat.le_trans hB.size h))
                        rw [HT1.out]
                        clear hB
                        have cHZ := HZ.out.2.1
                        have cHYa := HYa.out.2.1
                        have cHQa := HQa.out.2.1
                        refine hK.out _ _ ?_ (fun hHeld => ?_)
                        · exact ⟨cHZ, cHYa, cHQa⟩
                        clear hK K
                        refine wpAnyH_take (i := 34) (v := ?_) rfl (by kernel_rfl) (by kernel_rfl) (by kernel_rfl) (fun _ _ _ h => h) (Or.inl ⟨by rfl, ?_⟩) (by assumption) ?_
                        rotate_left
                        · (intro w hSw; (try dsimp only at hSw); go_simp; try with_reducible rfl)
                        simp only [Act.put, List.getElem_toArray, List.getElem_cons_succ, List.getElem_cons_zero, List.setIfInBounds_toArray, List.set_cons_zero, List.set_cons_succ]
                        refine wpAnyH_take (i := 35) (v := ?_) rfl (by kernel_rfl) (by kernel_rfl) (by kernel_rfl) (fun _ _ _ h => h) (Or.inl ⟨by rfl, ?_⟩) (by assumption) ?_
                        rotate_left
                        · (intro w hSw; (try dsimp only at hSw); go_simp; try with_reducible rfl)
                        simp only [Act.put, List.getElem_toArray, List.getElem_cons_succ, List.getElem_cons_zero, List.setIfInBounds_toArray, List.set_cons_zero, List.set_cons_succ]
                        refine wpAnyH_take (i := 36) (v := ?_) rfl (by kernel_rfl) (by kernel_rfl) (by kernel_rfl) (fun _ _ _ h => h) (Or.inl ⟨by rfl, ?_⟩) (by assumption) ?_
                        rotate_left
                        · (intro w hSw; (try dsimp only at hSw); go_simp; try with_reducible rfl)
                        simp only [Act.put, List.getElem_toArray, List.getElem_cons_succ, List.getElem_cons_zero, List.setIfInBounds_toArray, List.set_cons_zero, List.set_cons_succ]
                        refine wpAnyH_take (i := 38) (v := ?_) rfl (by kernel_rfl) (by kernel_rfl) (by kernel_rfl) (fun _ _ _ h => h) (Or.inl ⟨by rfl, ?_⟩) (by assumption) ?_
                        rotate_left
                        · (intro w hSw; (try dsimp only at hSw); go_simp; try with_reducible rfl)
                        simp only [Act.put, List.getElem_toArray, List.getElem_cons_succ, List.getElem_cons_zero, List.setIfInBounds_toArray, List.set_cons_zero, List.set_cons_succ]
                        refine wpAnyH_ready (rs := [37]) (by kernel_rfl) (by simp) ?_
                        refine AllReadyH.cons (o := _) rfl (fun K hK => ?_) ?_
                        · clear hHeld
                          go_simp
                          refine (tight_calls _ _ _ HV.out HOK.out HN.out HT.out).mono ?_
                          clear cHZ cHYa cHQa
                          rintro e W20 ⟨rfl, hB⟩
                          replace HT := Lib.hid (fun j hj => keep_below hB _ _ (HT.out j hj))
                          replace HS1 := Lib.hid (HS1.out.below hB)
                          replace HTS := Lib.hid (HTS.out.below hB)
                          replace HV := Lib.hid (HV.out.grow hB)
                          replace HZ := Lib.hid (HZ.out.below hB)
                          replace HY := Lib.hid (HY.out.grow hB)
                          replace HYa := Lib.hid (HYa.out.below hB)
                          replace HQ1 := Lib.hid (HQ1.out.grow hB)
                          replace HQa := Lib.hid (HQa.out.below hB)
                          replace HA1 := Lib.hid (HA1.out.below hB)
                          replace HA2 := Lib.hid (HA2.out.below hB)
                          replace HB := Lib.hid (HB.out.trans (hB.mono HB.out.size))
                          replace HFR := Lib.hid (fun b h => HFR.out b (Nat.le_trans hB.size h))
                          rw [HT2.out]
                          clear hB
                          have cHZ := HZ.out.2.1
                          have cHYa := HYa.out.2.1
                          have cHQa := HQa.out.2.1
                          refine hK.out _ _ ?_ (fun hHeld => ?_)
                          · exact ⟨cHZ, cHYa, cHQa⟩
                          clear hK K
                          refine wpAnyH_ready (rs := [39]) (by kernel_rfl) (by simp) ?_
                          refine AllReadyH.cons (o := _) rfl (fun K hK => ?_) ?_
                          · clear hHeld
                            go_simp
                            refine (Calls.grow_same (rleast_calls _ t _ HTS.out HMM.out HN.out)).mono ?_
                            clear cHZ cHYa cHQa
                            rintro e W21 ⟨rfl, hB⟩
                            replace HT := Lib.hid (fun j hj => keep_below hB _ _ (HT.out j hj))
                            replace HS1 := Lib.hid (HS1.out.below hB)
                            replace HTS := Lib.hid (HTS.out.below hB)
                            replace HV := Lib.hid (HV.out.grow hB)
                            replace HZ := Lib.hid (HZ.out.below hB)
                            replace HY := Lib.hid (HY.out.grow hB)
                            replace HYa := Lib.hid (HYa.out.below hB)
                            replace HQ1 := Lib.hid (HQ1.out.grow hB)
                            replace HQa := Lib.hid (HQa.out.below hB)
                            replace HA1 := Lib.hid (HA1.out.below hB)
                            replace HA2 := Lib.hid (HA2.out.below hB)
                            replace HB := Lib.hid (HB.out.trans (hB.mono HB.out.size))
                            replace HFR := Lib.hid (fun b h => HFR.out b (Nat.le_trans hB.size h))
                            rw [HQ.out]
                            clear hB
                            have cHZ := HZ.out.2.1
                            have cHYa := HYa.out.2.1
                            have cHQa := HQa.out.2.1
                            refine hK.out _ _ ?_ (fun hHeld => ?_)
                            · exact ⟨cHZ, cHYa, cHQa⟩
                            clear hK K
                            refine wpAnyH_take (i := 40) (v := ?_) rfl (by kernel_rfl) (by kernel_rfl) (by kernel_rfl) (fun _ _ _ h => h) (Or.inl ⟨by rfl, ?_⟩) (by assumption) ?_
                            rotate_left
                            · (intro w hSw; (try dsimp only at hSw); go_simp; try with_reducible rfl)
                            simp only [Act.put, List.getElem_toArray, List.getElem_cons_succ, List.getElem_cons_zero, List.setIfInBounds_toArray, List.set_cons_zero, List.set_cons_succ]
                            refine wpAnyH_take (i := 41) (v := ?_) rfl (by kernel_rfl) (by kernel_rfl) (by kernel_rfl) (fun _ _ _ h => h) (Or.inl ⟨by rfl, ?_⟩) (by assumption) ?_
                            rotate_left
                            · (intro w hSw; (try dsimp only at hSw); go_simp; try with_reducible rfl)
                            simp only [Act.put, List.getElem_toArray, List.getElem_cons_succ, List.getElem_cons_zero, List.setIfInBounds_toArray, List.set_cons_zero, List.set_cons_succ]
                            refine wpAnyH_take (i := 42) (v := ?_) rfl (by kernel_rfl) (by kernel_rfl) (by kernel_rfl) (fun _ _ _ h => h) (Or.inl ⟨by rfl, ?_⟩) (by assumption) ?_
                            rotate_left
                            · (intro w hSw; (try dsimp only at hSw); go_simp; try with_reducible rfl)
                            simp only [Act.put, List.getElem_toArray, List.getElem_cons_succ, List.getElem_cons_zero, List.setIfInBounds_toArray, List.set_cons_zero, List.set_cons_succ]
                            refine wpAnyH_take (i := 43) (v := ?_) rfl (by kernel_rfl) (by kernel_rfl) (by kernel_rfl) (fun _ _ _ h => h) (Or.inl ⟨by rfl, ?_⟩) (by assumption) ?_
                            rotate_left
                            · (intro w hSw; (try dsimp only at hSw); go_simp; try with_reducible rfl)
                            simp only [Act.put, List.getElem_toArray, List.getElem_cons_succ, List.getElem_cons_zero, List.setIfInBounds_toArray, List.set_cons_zero, List.set_cons_succ]
                            refine wpAnyH_ready (rs := [44]) (by kernel_rfl) (by simp) ?_
                            refine AllReadyH.cons (o := _) rfl (fun K hK => ?_) ?_
                            · clear hHeld
                              go_simp
                              refine (awake5_calls _ HT.out).mono ?_
                              clear cHZ cHYa cHQa
                              rintro e W22 ⟨rfl, hB⟩
                              replace HT := Lib.hid (fun j hj => keep_below hB _ _ (HT.out j hj))
                              replace HS1 := Lib.hid (HS1.out.below hB)
                              replace HTS := Lib.hid (HTS.out.below hB)
                              replace HV := Lib.hid (HV.out.grow hB)
                              replace HZ := Lib.hid (HZ.out.below hB)
                              replace HY := Lib.hid (HY.out.grow hB)
                              replace HYa := Lib.hid (HYa.out.below hB)
                              replace HQ1 := Lib.hid (HQ1.out.grow hB)
                              replace HQa := Lib.hid (HQa.out.below hB)
                              replace HA1 := Lib.hid (HA1.out.below hB)
                              replace HA2 := Lib.hid (HA2.out.below hB)
                              replace HB := Lib.hid (HB.out.trans (hB.mono HB.out.size))
                              replace HFR := Lib.hid (fun b h => HFR.out b (Nat.le_trans hB.size h))
                              clear hB
                              have cHZ := HZ.out.2.1
                              have cHYa := HYa.out.2.1
                              have cHQa := HQa.out.2.1
                              refine hK.out _ _ ?_ (fun hHeld => ?_)
                              · exact ⟨cHZ, cHYa, cHQa⟩
                              clear hK K
                              refine wpAnyH_take (i := 45) (v := ?_) rfl (by kernel_rfl) (by kernel_rfl) (by kernel_rfl) (fun _ _ _ h => h) (Or.inl ⟨by rfl, ?_⟩) (by assumption) ?_
                              rotate_left
                              · (intro w hSw; (try dsimp only at hSw); go_simp; try with_reducible rfl)
                              simp only [Act.put, List.getElem_toArray, List.getElem_cons_succ, List.getElem_cons_zero, List.setIfInBounds_toArray, List.set_cons_zero, List.set_cons_succ]
                              refine wpAnyH_take (i := 46) (v := ?_) rfl (by kernel_rfl) (by kernel_rfl) (by kernel_rfl) (fun _ _ _ h => h) (Or.inl ⟨by rfl, ?_⟩) (by assumption) ?_
                              rotate_left
                              · (intro w hSw; (try dsimp only at hSw); go_simp; try with_reducible rfl)
                              simp only [Act.put, List.getElem_toArray, List.getElem_cons_succ, List.getElem_cons_zero, List.setIfInBounds_toArray, List.set_cons_zero, List.set_cons_succ]
                              refine wpAnyH_done (by kernel_rfl) ?_ _
                              clear hHeld
                              go_wp2
                              go_ret
                              exact ⟨rfl, HB.out⟩
                            exact AllReadyH.nil
                          exact AllReadyH.nil
                        exact AllReadyH.nil
                      exact AllReadyH.nil
                    exact AllReadyH.nil
                  exact AllReadyH.nil
                exact AllReadyH.nil
              exact AllReadyH.nil
            exact AllReadyH.nil
          exact AllReadyH.nil
        exact AllReadyH.nil
      exact AllReadyH.nil
    exact AllReadyH.nil
  exact AllReadyH.nil
end Go.Proofs.YtnicoddkbcfijaaDoor

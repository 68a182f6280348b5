/- Merged: ScI, ScJ, ScF, ScK, ScA, ScL. -/
import Derived.Laws.Cover1
import Derived.Test.YtbacchbcanlciaaGreatDoorMgSc1
import Derived.Test.YtbacchbcanlciaaGreatDoorMgFo1
import Derived.Test.YtbacchbcanlciaaGreatDoorMgBx1
import Derived.Test.YtbacchbcanlciaaGreatDoorMgVe1
import Derived.Test.YtbacchbcanlciaaGreatDoorMgKp1
/- Layer 14, walked: ofRows of package scan. -/
namespace Go.Proofs.YtbacchbcanlciaaGreatDoor
set_option maxRecDepth 100000
open Go.RowKit Fl
set_option linter.unusedVariables false

theorem pfx_cnt (F : Nat → Bool) : ∀ k, pfx F k = decide (cnt F k % 2 = 1)
 | 0 => rfl
 | k + 1 => by
  show (pfx F k ^^ F k) = decide ((cnt F k + (F k).toNat) % 2 = 1)
  rw [pfx_cnt F k]
  have h : cnt F k % 2 = 0 ∨ cnt F k % 2 = 1 := by omega
  cases F k <;> rcases h with h | h <;> simp [h, Nat.add_mod]
theorem odd_pfx (t : Nat) (r : List Bool) : ((List.range (r.map (flipB t)).length).map fun k => pfx (sq (r.map (flipB t))) k) = oddL t r := by
 rw [List.length_map]
 exact List.map_congr_left fun k _ => pfx_cnt _ k
theorem cell_two_newS (w : World) (x y : Value) (t : TypeId) : ∀ j u, [x, y][j]? = some u → (w.alloc (.cells #[x, y] t)).cell? ((⟨w.heap.size, 0, none⟩ : Addr).add j) = some u := by
 intro j u h
 rw [Go.WideShapes.add_plain]
 match j with
 | 0 => simp at h; subst h; simp
 | 1 => simp at h; subst h; simp
 | j + 2 => simp at h
set_option maxHeartbeats 16000000 in
theorem scrows_calls (t : Nat) (v : Value) (l : List Bool) (outer n : Nat) (w : World) (hv : IsBits w v l) (ht : t < 256) (hl : l.length ≤ 1048576) (hll : l.length = outer * n) (hpos : 0 < l.length) (hn : 64 ≤ n) (hT : TabAt w) :
  Calls Tryz.prog 68 #[.int .u8 (t : Int), v, .int .i64 (outer : Int), .int .i64 (n : Int)] w fun e w' => ∃ u, e = .returned (.agg #[u]) ∧ IsV w' (fun _ => True) u (.bits (upB t l outer n 1)) ∧ Below w.heap.size w w' := by
 obtain ⟨i0, hi0, hz0, hz1, hz2⟩ := info_parts info_vec1
 have HI0 := Lib.hid (And.intro hi0 (And.intro hz0 (And.intro hz1 hz2)))
 clear hi0 hz0 hz1 hz2; have HL := Lib.hid hl; have HLL := Lib.hid hll; have HTW := Lib.hid ht; have HPOS := Lib.hid hpos
 have hob : outer ≤ 16384 ∧ n ≤ 1048576 := by
  have h9 := Nat.mul_le_mul_left outer hn
  have h0 : 0 < outer := Nat.pos_of_ne_zero fun e => by rw [hll, e, Nat.zero_mul] at hpos; omega
  have h5 := Nat.le_mul_of_pos_left n h0
  omega
 have HN := Lib.hid (show 0 < n by omega)
 have HNO := Lib.hid hob.2; have HOM := Lib.hid hob.1
 obtain ⟨m, hm⟩ : ∃ m, l.length = m := ⟨_, rfl⟩
 obtain ⟨ao, cap, rfl, hcx⟩ := hv.opened
 have HV := Lib.hid hv
 rw [hm] at HV ⊢
 have HM := Lib.hid hm
 obtain ⟨L, hL⟩ : ∃ L, (m + 63) / 64 = L := ⟨_, rfl⟩
 rw [hL] at HV ⊢
 obtain ⟨W1, hW1⟩ : ∃ W1, W1 = (w.alloc (.cells #[.int .i64 m, .slice ao L cap] 63)).alloc (.cells #[.nilIface] 25) := ⟨_, rfl⟩
 have HA := Lib.hid (show At2 W1 w.heap.size (.int .i64 m) (.slice ao L cap) by rw [hW1]; exact (At2.new _ _ _ _).alloc _)
 have HR := Lib.hid (show At1 W1 (w.heap.size + 1) .nilIface by
  rw [hW1]; have := At1.new (w.alloc (.cells #[.int .i64 m, .slice ao L cap] 63)) .nilIface 25; simpa using this)
 have HB := Lib.hid (show Below w.heap.size w W1 by rw [hW1]; exact ((Below.refl _ _).alloc (Nat.le_refl _) _).alloc (by simp) _)
 replace HV := Lib.hid (HV.out.keep (keep_below HB.out))
 have HT := Lib.hid (show TabAt W1 from fun j hj => keep_below HB.out _ _ (hT j hj))
 have hfold := hW1.symm
 clear hcx hL hv hl hll ht hn hpos hob hT hW1 hm
 obtain ⟨lo, hlo⟩ : ∃ lo, (l.map fun x => tab t x false) = lo := ⟨_, rfl⟩
 obtain ⟨hi, hhi⟩ : ∃ hi, (l.map fun x => tab t x true) = hi := ⟨_, rfl⟩
 obtain ⟨se, hse⟩ : ∃ se, l.map (settB t) = se := ⟨_, rfl⟩
 obtain ⟨fl, hfl⟩ : ∃ fl, l.map (flipB t) = fl := ⟨_, rfl⟩
 have HLO := Lib.hid (show List.zipWith (tab t) l (List.replicate m false) = lo by rw [← HM.out, zip_rep, hlo])
 have HHI := Lib.hid (show List.zipWith (tab t) l (List.replicate m true) = hi by rw [← HM.out, zip_rep, hhi])
 have HSE := Lib.hid (show List.zipWith (tab 9) lo hi = se by rw [← hlo, ← hhi, zip_sett, hse])
 have HFL := Lib.hid (show List.zipWith (tab 4) lo hi = fl by rw [← hlo, ← hhi, zip_flip, hfl])
 have HLOM := Lib.hid (show lo.length = m by rw [← hlo, List.length_map, HM.out])
 have HHIM := Lib.hid (show hi.length = m by rw [← hhi, List.length_map, HM.out])
 have HSEM := Lib.hid (show se.length = m by rw [← hse, List.length_map, HM.out])
 have HFLM := Lib.hid (show fl.length = m by rw [← hfl, List.length_map, HM.out])
 have HLX := Lib.hid hlo; have HSX := Lib.hid hse; have HFX := Lib.hid hfl
 have HMM := Lib.hid (show m ≤ 1048576 by rw [← HM.out]; exact HL.out)
 have HMK := Lib.hid (show min (max (m : Int) 0) 1048576 = (m : Int) by have := HMM.out; omega)
 clear hlo hhi hse hfl; have cHA0 := HA.out.2.1; have cHA1 := HA.out.2.2.1; have cHR0 := HR.out.2.1; have zHR0 := HR.out.2.2 0
 go_enter Tryz.func68, Tryz.ntmps68
 go_wp2_with fail
 clear hfold; clear cHA0 cHA1 cHR0 zHR0
 refine wp_mid (fun s0 s1 w' => ∃ (vmk : Value) (alo : Option Addr) (clo rlo : Nat), s1 = (((((((((((s0.put (some 25) (.int .u8 (t : Int))).put (some 26) (.agg #[.int .i64 m, .slice ao L cap])).put (some 27) (.agg #[.int .i64 m, .slice ao L cap])).put (some 28) (.int .i64 (m : Int))).put (some 29) vmk).put (some 30) (.tuple #[(.agg #[.int .i64 lo.length, .slice alo ((lo.length + 63) / 64) clo]), .bool true])).put (some 24) (.tuple #[(.agg #[.int .i64 lo.length, .slice alo ((lo.length + 63) / 64) clo]), .bool true])).put (some 31) (.agg #[.int .i64 lo.length, .slice alo ((lo.length + 63) / 64) clo])).put (some 32) (.bool true)).put (some 9) (.pointer (some ⟨rlo, 0, none⟩))).put (some 10) (.bool true)) ∧ IsBits w' (.agg #[.int .i64 lo.length, .slice alo ((lo.length + 63) / 64) clo]) lo ∧ At2 w' rlo (.int .i64 lo.length) (.slice alo ((lo.length + 63) / 64) clo) ∧ W1.heap.size ≤ rlo ∧ Below W1.heap.size W1 w') ?_ ?_
 ·have HW0 := Lib.hid (Below.refl W1.heap.size W1)
  have HAS := HA
  obtain ⟨W11, hWD, hB⟩ := drwn W1
  replace HV := HV.go hB; replace HA := HA.go hB; replace HW0 := cb hB HW0; clear hB
  refine rgn (S := fun w' => w'.cell? ⟨w.heap.size, 0, none⟩ = some (.int .i64 m) ∧ w'.cell? ⟨w.heap.size, 1, none⟩ = some (.slice ao L cap)) hWD ⟨HA.out.2.1, HA.out.2.2.1⟩ (fun hHeld => ?_)
  clear hWD; apply tm 0; apply tm 1; apply tm 2
  refine wpAnyH_ready (rs := [3, 9]) (by kernel_rfl) (by simp) ?_
  refine AllReadyH.cons (o := _) rfl (fun K hK => ?_) ?_
  ·clear hHeld; go_simp
   refine (len_calls _ l _ HV.out).mono ?_
   rintro e W12 ⟨rfl, hB⟩
   replace HV := HV.go hB; replace HA := HA.go hB; replace HW0 := cb hB HW0; rw [HM.out]; clear hB
   refine hK.out _ _ ⟨HA.out.2.1, HA.out.2.2.1⟩ (fun hHeld => ?_)
   clear hK K
   refine wpAnyH_ready (rs := [4, 9]) (by kernel_rfl) (by simp) ?_
   refine AllReadyH.cons (o := _) rfl (fun K hK => ?_) ?_
   ·clear hHeld; go_simp
    refine (make_calls _ false m HMK.out _).mono ?_
    rintro e W13 ⟨vmk, rfl, hmk, hB⟩
    replace HV := HV.go hB; replace HA := HA.go hB; replace HW0 := cb hB HW0; have Hmk := Lib.hid hmk; clear hmk; clear hB
    refine hK.out _ _ ⟨HA.out.2.1, HA.out.2.2.1⟩ (fun hHeld => ?_)
    clear hK K
    refine wpAnyH_ready (rs := [5, 9]) (by kernel_rfl) (by simp) ?_
    refine AllReadyH.cons (o := _) rfl (fun K hK => ?_) ?_
    ·clear hHeld; go_simp
     refine (truth_yes t HTW.out _ vmk l (List.replicate m false) _ HV.out Hmk.out (by rw [List.length_replicate]; exact HM.out) HL.out).mono ?_
     rintro e W14 ⟨vlo, rfl, hlo, hB⟩
     replace HV := HV.go hB; replace HA := HA.go hB; replace HW0 := cb hB HW0; replace Hmk := Hmk.go hB
     rw [HLO.out] at hlo
     have Hlo := Lib.hid hlo
     obtain ⟨alo, clo, rfl, hclo⟩ := hlo.opened
     clear hlo hclo; clear hB
     refine hK.out _ _ ⟨HA.out.2.1, HA.out.2.2.1⟩ (fun hHeld => ?_)
     clear hK K; apply tm 6; apply tm 7; apply tm 8
     apply rdy 9; intro K hK; clear hHeld; go_simp
     obtain ⟨W15, hWn, hB, hNB⟩ := ahd2 W14 (.int .i64 0) (.slice none 0 0) 63
     have hbk : W1.heap.size ≤ W14.heap.size := HW0.out.size
     rw [hWn]; clear hWn
     obtain ⟨rlo, hnm⟩ : ∃ x, W14.heap.size = x := ⟨_, rfl⟩
     rw [hnm] at hNB hbk ⊢
     replace HV := HV.go hB; replace HA := HA.go hB; replace HW0 := cb hB HW0; replace Hmk := Hmk.go hB; replace Hlo := Hlo.go hB; have HRV := Lib.hid hNB; have HBK := Lib.hid hbk; clear hNB hB hnm hbk
     refine hK.out _ _ ⟨HA.out.2.1, HA.out.2.2.1⟩ (fun hHeld => ?_)
     clear hK K
     apply rdy 10; intro K hK; clear hHeld; have s0 := HRV.out.2.1; have t0 := HRV.out.2.2.2 0; have s1 := HRV.out.2.2.1; have t1 := HRV.out.2.2.2 1; go_simp; clear s0 t0 s1 t1
     obtain ⟨W16, hWn⟩ : ∃ xw9, (W15.setCell ⟨rlo, 0, none⟩ (.int .i64 lo.length)).setCell ⟨rlo, 1, none⟩ (.slice alo ((lo.length + 63) / 64) clo) = xw9 := ⟨_, rfl⟩
     rw [hWn]
     replace Hlo := Lib.hid (show IsBits W16 (.agg #[.int .i64 lo.length, .slice alo ((lo.length + 63) / 64) clo]) lo by rw [← hWn]; exact Hlo.out.set2 HRV.out _ _)
     replace HRV := Lib.hid (show At2 W16 rlo (.int .i64 lo.length) (.slice alo ((lo.length + 63) / 64) clo) by rw [← hWn]; exact at2_put HRV.out _ _)
     replace HW0 := Lib.hid (show Below W1.heap.size W1 W16 by rw [← hWn]; exact below_setc HW0.out HBK.out _ _)
     replace HA := Lib.hid (show At2 W16 w.heap.size (.int .i64 m) (.slice ao L cap) from HAS.out.below HW0.out)
     clear hWn
     refine hK.out _ _ ⟨HA.out.2.1, HA.out.2.2.1⟩ (fun hHeld => ?_)
     clear hK K; apply tm 11
     refine wpAnyH_done (by kernel_rfl) ?_ _
     clear hHeld
     refine ⟨rfl, vmk, alo, clo, rlo, ?_, Hlo.out, HRV.out, HBK.out, HW0.out⟩
     try simp only [Act.put, List.setIfInBounds_toArray, List.set_cons_zero, List.set_cons_succ]
     all_goals first | rfl | kernel_rfl
    refine AllReadyH.cons (o := _) rfl (fun K hK => ?_) ?_
    ·clear hHeld; go_simp
     obtain ⟨W14, hWn, hB, hNB⟩ := ahd2 W13 (.int .i64 0) (.slice none 0 0) 63
     have hbk : W1.heap.size ≤ W13.heap.size := HW0.out.size
     rw [hWn]; clear hWn
     obtain ⟨rlo, hnm⟩ : ∃ x, W13.heap.size = x := ⟨_, rfl⟩
     rw [hnm] at hNB hbk ⊢
     replace HV := HV.go hB; replace HA := HA.go hB; replace HW0 := cb hB HW0; replace Hmk := Hmk.go hB; have HRV := Lib.hid hNB; have HBK := Lib.hid hbk; clear hNB hB hnm hbk
     refine hK.out _ _ ⟨HA.out.2.1, HA.out.2.2.1⟩ (fun hHeld => ?_)
     clear hK K
     apply rdy 5; intro K hK; clear hHeld; go_simp
     refine (truth_yes t HTW.out _ vmk l (List.replicate m false) _ HV.out Hmk.out (by rw [List.length_replicate]; exact HM.out) HL.out).mono ?_
     rintro e W15 ⟨vlo, rfl, hlo, hB⟩
     replace HV := HV.go hB; replace HA := HA.go hB; replace HW0 := cb hB HW0; replace Hmk := Hmk.go hB; replace HRV := HRV.go hB
     rw [HLO.out] at hlo
     have Hlo := Lib.hid hlo
     obtain ⟨alo, clo, rfl, hclo⟩ := hlo.opened
     clear hlo hclo; clear hB
     refine hK.out _ _ ⟨HA.out.2.1, HA.out.2.2.1⟩ (fun hHeld => ?_)
     clear hK K; apply tm 6; apply tm 7; apply tm 8
     apply rdy 10; intro K hK; clear hHeld; have s0 := HRV.out.2.1; have t0 := HRV.out.2.2.2 0; have s1 := HRV.out.2.2.1; have t1 := HRV.out.2.2.2 1; go_simp; clear s0 t0 s1 t1
     obtain ⟨W16, hWn⟩ : ∃ xw9, (W15.setCell ⟨rlo, 0, none⟩ (.int .i64 lo.length)).setCell ⟨rlo, 1, none⟩ (.slice alo ((lo.length + 63) / 64) clo) = xw9 := ⟨_, rfl⟩
     rw [hWn]
     replace Hlo := Lib.hid (show IsBits W16 (.agg #[.int .i64 lo.length, .slice alo ((lo.length + 63) / 64) clo]) lo by rw [← hWn]; exact Hlo.out.set2 HRV.out _ _)
     replace HRV := Lib.hid (show At2 W16 rlo (.int .i64 lo.length) (.slice alo ((lo.length + 63) / 64) clo) by rw [← hWn]; exact at2_put HRV.out _ _)
     replace HW0 := Lib.hid (show Below W1.heap.size W1 W16 by rw [← hWn]; exact below_setc HW0.out HBK.out _ _)
     replace HA := Lib.hid (show At2 W16 w.heap.size (.int .i64 m) (.slice ao L cap) from HAS.out.below HW0.out)
     clear hWn
     refine hK.out _ _ ⟨HA.out.2.1, HA.out.2.2.1⟩ (fun hHeld => ?_)
     clear hK K; apply tm 11
     refine wpAnyH_done (by kernel_rfl) ?_ _
     clear hHeld
     refine ⟨rfl, vmk, alo, clo, rlo, ?_, Hlo.out, HRV.out, HBK.out, HW0.out⟩
     try simp only [Act.put, List.setIfInBounds_toArray, List.set_cons_zero, List.set_cons_succ]
     all_goals first | rfl | kernel_rfl
    exact AllReadyH.nil
   refine AllReadyH.cons (o := _) rfl (fun K hK => ?_) ?_
   ·clear hHeld; go_simp
    obtain ⟨W13, hWn, hB, hNB⟩ := ahd2 W12 (.int .i64 0) (.slice none 0 0) 63
    have hbk : W1.heap.size ≤ W12.heap.size := HW0.out.size
    rw [hWn]; clear hWn
    obtain ⟨rlo, hnm⟩ : ∃ x, W12.heap.size = x := ⟨_, rfl⟩
    rw [hnm] at hNB hbk ⊢
    replace HV := HV.go hB; replace HA := HA.go hB; replace HW0 := cb hB HW0; have HRV := Lib.hid hNB; have HBK := Lib.hid hbk; clear hNB hB hnm hbk
    refine hK.out _ _ ⟨HA.out.2.1, HA.out.2.2.1⟩ (fun hHeld => ?_)
    clear hK K
    apply rdy 4; intro K hK; clear hHeld; go_simp
    refine (make_calls _ false m HMK.out _).mono ?_
    rintro e W14 ⟨vmk, rfl, hmk, hB⟩
    replace HV := HV.go hB; replace HA := HA.go hB; replace HW0 := cb hB HW0; replace HRV := HRV.go hB; have Hmk := Lib.hid hmk; clear hmk; clear hB
    refine hK.out _ _ ⟨HA.out.2.1, HA.out.2.2.1⟩ (fun hHeld => ?_)
    clear hK K
    apply rdy 5; intro K hK; clear hHeld; go_simp
    refine (truth_yes t HTW.out _ vmk l (List.replicate m false) _ HV.out Hmk.out (by rw [List.length_replicate]; exact HM.out) HL.out).mono ?_
    rintro e W15 ⟨vlo, rfl, hlo, hB⟩
    replace HV := HV.go hB; replace HA := HA.go hB; replace HW0 := cb hB HW0; replace HRV := HRV.go hB; replace Hmk := Hmk.go hB
    rw [HLO.out] at hlo
    have Hlo := Lib.hid hlo
    obtain ⟨alo, clo, rfl, hclo⟩ := hlo.opened
    clear hlo hclo; clear hB
    refine hK.out _ _ ⟨HA.out.2.1, HA.out.2.2.1⟩ (fun hHeld => ?_)
    clear hK K; apply tm 6; apply tm 7; apply tm 8
    apply rdy 10; intro K hK; clear hHeld; have s0 := HRV.out.2.1; have t0 := HRV.out.2.2.2 0; have s1 := HRV.out.2.2.1; have t1 := HRV.out.2.2.2 1; go_simp; clear s0 t0 s1 t1
    obtain ⟨W16, hWn⟩ : ∃ xw9, (W15.setCell ⟨rlo, 0, none⟩ (.int .i64 lo.length)).setCell ⟨rlo, 1, none⟩ (.slice alo ((lo.length + 63) / 64) clo) = xw9 := ⟨_, rfl⟩
    rw [hWn]
    replace Hlo := Lib.hid (show IsBits W16 (.agg #[.int .i64 lo.length, .slice alo ((lo.length + 63) / 64) clo]) lo by rw [← hWn]; exact Hlo.out.set2 HRV.out _ _)
    replace HRV := Lib.hid (show At2 W16 rlo (.int .i64 lo.length) (.slice alo ((lo.length + 63) / 64) clo) by rw [← hWn]; exact at2_put HRV.out _ _)
    replace HW0 := Lib.hid (show Below W1.heap.size W1 W16 by rw [← hWn]; exact below_setc HW0.out HBK.out _ _)
    replace HA := Lib.hid (show At2 W16 w.heap.size (.int .i64 m) (.slice ao L cap) from HAS.out.below HW0.out)
    clear hWn
    refine hK.out _ _ ⟨HA.out.2.1, HA.out.2.2.1⟩ (fun hHeld => ?_)
    clear hK K; apply tm 11
    refine wpAnyH_done (by kernel_rfl) ?_ _
    clear hHeld
    refine ⟨rfl, vmk, alo, clo, rlo, ?_, Hlo.out, HRV.out, HBK.out, HW0.out⟩
    try simp only [Act.put, List.setIfInBounds_toArray, List.set_cons_zero, List.set_cons_succ]
    all_goals first | rfl | kernel_rfl
   exact AllReadyH.nil
  refine AllReadyH.cons (o := _) rfl (fun K hK => ?_) ?_
  ·clear hHeld; go_simp
   obtain ⟨W12, hWn, hB, hNB⟩ := ahd2 W11 (.int .i64 0) (.slice none 0 0) 63
   have hbk : W1.heap.size ≤ W11.heap.size := HW0.out.size
   rw [hWn]; clear hWn
   obtain ⟨rlo, hnm⟩ : ∃ x, W11.heap.size = x := ⟨_, rfl⟩
   rw [hnm] at hNB hbk ⊢
   replace HV := HV.go hB; replace HA := HA.go hB; replace HW0 := cb hB HW0; have HRV := Lib.hid hNB; have HBK := Lib.hid hbk; clear hNB hB hnm hbk
   refine hK.out _ _ ⟨HA.out.2.1, HA.out.2.2.1⟩ (fun hHeld => ?_)
   clear hK K
   apply rdy 3; intro K hK; clear hHeld; go_simp
   refine (len_calls _ l _ HV.out).mono ?_
   rintro e W13 ⟨rfl, hB⟩
   replace HV := HV.go hB; replace HA := HA.go hB; replace HW0 := cb hB HW0; replace HRV := HRV.go hB; rw [HM.out]; clear hB
   refine hK.out _ _ ⟨HA.out.2.1, HA.out.2.2.1⟩ (fun hHeld => ?_)
   clear hK K
   apply rdy 4; intro K hK; clear hHeld; go_simp
   refine (make_calls _ false m HMK.out _).mono ?_
   rintro e W14 ⟨vmk, rfl, hmk, hB⟩
   replace HV := HV.go hB; replace HA := HA.go hB; replace HW0 := cb hB HW0; replace HRV := HRV.go hB; have Hmk := Lib.hid hmk; clear hmk; clear hB
   refine hK.out _ _ ⟨HA.out.2.1, HA.out.2.2.1⟩ (fun hHeld => ?_)
   clear hK K
   apply rdy 5; intro K hK; clear hHeld; go_simp
   refine (truth_yes t HTW.out _ vmk l (List.replicate m false) _ HV.out Hmk.out (by rw [List.length_replicate]; exact HM.out) HL.out).mono ?_
   rintro e W15 ⟨vlo, rfl, hlo, hB⟩
   replace HV := HV.go hB; replace HA := HA.go hB; replace HW0 := cb hB HW0; replace HRV := HRV.go hB; replace Hmk := Hmk.go hB
   rw [HLO.out] at hlo
   have Hlo := Lib.hid hlo
   obtain ⟨alo, clo, rfl, hclo⟩ := hlo.opened
   clear hlo hclo; clear hB
   refine hK.out _ _ ⟨HA.out.2.1, HA.out.2.2.1⟩ (fun hHeld => ?_)
   clear hK K; apply tm 6; apply tm 7; apply tm 8
   apply rdy 10; intro K hK; clear hHeld; have s0 := HRV.out.2.1; have t0 := HRV.out.2.2.2 0; have s1 := HRV.out.2.2.1; have t1 := HRV.out.2.2.2 1; go_simp; clear s0 t0 s1 t1
   obtain ⟨W16, hWn⟩ : ∃ xw9, (W15.setCell ⟨rlo, 0, none⟩ (.int .i64 lo.length)).setCell ⟨rlo, 1, none⟩ (.slice alo ((lo.length + 63) / 64) clo) = xw9 := ⟨_, rfl⟩
   rw [hWn]
   replace Hlo := Lib.hid (show IsBits W16 (.agg #[.int .i64 lo.length, .slice alo ((lo.length + 63) / 64) clo]) lo by rw [← hWn]; exact Hlo.out.set2 HRV.out _ _)
   replace HRV := Lib.hid (show At2 W16 rlo (.int .i64 lo.length) (.slice alo ((lo.length + 63) / 64) clo) by rw [← hWn]; exact at2_put HRV.out _ _)
   replace HW0 := Lib.hid (show Below W1.heap.size W1 W16 by rw [← hWn]; exact below_setc HW0.out HBK.out _ _)
   replace HA := Lib.hid (show At2 W16 w.heap.size (.int .i64 m) (.slice ao L cap) from HAS.out.below HW0.out)
   clear hWn
   refine hK.out _ _ ⟨HA.out.2.1, HA.out.2.2.1⟩ (fun hHeld => ?_)
   clear hK K; apply tm 11
   refine wpAnyH_done (by kernel_rfl) ?_ _
   clear hHeld
   refine ⟨rfl, vmk, alo, clo, rlo, ?_, Hlo.out, HRV.out, HBK.out, HW0.out⟩
   try simp only [Act.put, List.setIfInBounds_toArray, List.set_cons_zero, List.set_cons_succ]
   all_goals first | rfl | kernel_rfl
  exact AllReadyH.nil
 rintro _ wmlo ⟨vmk, alo, clo, rlo, rfl, hlo, hAlo, hGlo, hB⟩
 have Hlo := Lib.hid hlo; have HVlo := Lib.hid hAlo; have HGlo := Lib.hid hGlo; clear hlo hAlo hGlo; replace HB := cb hB HB; replace HV := HV.go hB; replace HT := HT.go hB; replace HA := HA.go hB; replace HR := HR.go hB; clear hB
 simp only [Act.put, List.setIfInBounds_toArray, List.set_cons_zero, List.set_cons_succ]
 have cHA0 := HA.out.2.1; have cHA1 := HA.out.2.2.1; have cHR0 := HR.out.2.1; have cHVlo0 := HVlo.out.2.1; have cHVlo1 := HVlo.out.2.2.1
 go_wp2_with fail
 clear cHA0 cHA1 cHR0 cHVlo0 cHVlo1
 refine wp_mid (fun s0 s1 w' => ∃ (vmk : Value) (ahi : Option Addr) (chi rhi : Nat), s1 = (((((((((((s0.put (some 34) (.int .u8 (t : Int))).put (some 35) (.agg #[.int .i64 m, .slice ao L cap])).put (some 36) (.agg #[.int .i64 m, .slice ao L cap])).put (some 37) (.int .i64 (m : Int))).put (some 38) vmk).put (some 39) (.tuple #[(.agg #[.int .i64 hi.length, .slice ahi ((hi.length + 63) / 64) chi]), .bool true])).put (some 33) (.tuple #[(.agg #[.int .i64 hi.length, .slice ahi ((hi.length + 63) / 64) chi]), .bool true])).put (some 40) (.agg #[.int .i64 hi.length, .slice ahi ((hi.length + 63) / 64) chi])).put (some 41) (.bool true)).put (some 11) (.pointer (some ⟨rhi, 0, none⟩))).put (some 12) (.bool true)) ∧ IsBits w' (.agg #[.int .i64 hi.length, .slice ahi ((hi.length + 63) / 64) chi]) hi ∧ At2 w' rhi (.int .i64 hi.length) (.slice ahi ((hi.length + 63) / 64) chi) ∧ wmlo.heap.size ≤ rhi ∧ Below wmlo.heap.size wmlo w') ?_ ?_
 ·have HW0 := Lib.hid (Below.refl wmlo.heap.size wmlo)
  have HAS := HA
  obtain ⟨W11, hWD, hB⟩ := drwn wmlo
  replace HV := HV.go hB; replace HA := HA.go hB; replace HW0 := cb hB HW0; clear hB
  refine rgn (S := fun w' => w'.cell? ⟨w.heap.size, 0, none⟩ = some (.int .i64 m) ∧ w'.cell? ⟨w.heap.size, 1, none⟩ = some (.slice ao L cap)) hWD ⟨HA.out.2.1, HA.out.2.2.1⟩ (fun hHeld => ?_)
  clear hWD; apply tm 0; apply tm 1; apply tm 2
  refine wpAnyH_ready (rs := [3, 9]) (by kernel_rfl) (by simp) ?_
  refine AllReadyH.cons (o := _) rfl (fun K hK => ?_) ?_
  ·clear hHeld; go_simp
   refine (len_calls _ l _ HV.out).mono ?_
   rintro e W12 ⟨rfl, hB⟩
   replace HV := HV.go hB; replace HA := HA.go hB; replace HW0 := cb hB HW0; rw [HM.out]; clear hB
   refine hK.out _ _ ⟨HA.out.2.1, HA.out.2.2.1⟩ (fun hHeld => ?_)
   clear hK K
   refine wpAnyH_ready (rs := [4, 9]) (by kernel_rfl) (by simp) ?_
   refine AllReadyH.cons (o := _) rfl (fun K hK => ?_) ?_
   ·clear hHeld; go_simp
    refine (make_calls _ true m HMK.out _).mono ?_
    rintro e W13 ⟨vmk, rfl, hmk, hB⟩
    replace HV := HV.go hB; replace HA := HA.go hB; replace HW0 := cb hB HW0; have Hmk := Lib.hid hmk; clear hmk; clear hB
    refine hK.out _ _ ⟨HA.out.2.1, HA.out.2.2.1⟩ (fun hHeld => ?_)
    clear hK K
    refine wpAnyH_ready (rs := [5, 9]) (by kernel_rfl) (by simp) ?_
    refine AllReadyH.cons (o := _) rfl (fun K hK => ?_) ?_
    ·clear hHeld; go_simp
     refine (truth_yes t HTW.out _ vmk l (List.replicate m true) _ HV.out Hmk.out (by rw [List.length_replicate]; exact HM.out) HL.out).mono ?_
     rintro e W14 ⟨vhi, rfl, hhi, hB⟩
     replace HV := HV.go hB; replace HA := HA.go hB; replace HW0 := cb hB HW0; replace Hmk := Hmk.go hB
     rw [HHI.out] at hhi
     have Hhi := Lib.hid hhi
     obtain ⟨ahi, chi, rfl, hchi⟩ := hhi.opened
     clear hhi hchi; clear hB
     refine hK.out _ _ ⟨HA.out.2.1, HA.out.2.2.1⟩ (fun hHeld => ?_)
     clear hK K; apply tm 6; apply tm 7; apply tm 8
     apply rdy 9; intro K hK; clear hHeld; go_simp
     obtain ⟨W15, hWn, hB, hNB⟩ := ahd2 W14 (.int .i64 0) (.slice none 0 0) 63
     have hbk : wmlo.heap.size ≤ W14.heap.size := HW0.out.size
     rw [hWn]; clear hWn
     obtain ⟨rhi, hnm⟩ : ∃ x, W14.heap.size = x := ⟨_, rfl⟩
     rw [hnm] at hNB hbk ⊢
     replace HV := HV.go hB; replace HA := HA.go hB; replace HW0 := cb hB HW0; replace Hmk := Hmk.go hB; replace Hhi := Hhi.go hB; have HRV := Lib.hid hNB; have HBK := Lib.hid hbk; clear hNB hB hnm hbk
     refine hK.out _ _ ⟨HA.out.2.1, HA.out.2.2.1⟩ (fun hHeld => ?_)
     clear hK K
     apply rdy 10; intro K hK; clear hHeld; have s0 := HRV.out.2.1; have t0 := HRV.out.2.2.2 0; have s1 := HRV.out.2.2.1; have t1 := HRV.out.2.2.2 1; go_simp; clear s0 t0 s1 t1
     obtain ⟨W16, hWn⟩ : ∃ xw9, (W15.setCell ⟨rhi, 0, none⟩ (.int .i64 hi.length)).setCell ⟨rhi, 1, none⟩ (.slice ahi ((hi.length + 63) / 64) chi) = xw9 := ⟨_, rfl⟩
     rw [hWn]
     replace Hhi := Lib.hid (show IsBits W16 (.agg #[.int .i64 hi.length, .slice ahi ((hi.length + 63) / 64) chi]) hi by rw [← hWn]; exact Hhi.out.set2 HRV.out _ _)
     replace HRV := Lib.hid (show At2 W16 rhi (.int .i64 hi.length) (.slice ahi ((hi.length + 63) / 64) chi) by rw [← hWn]; exact at2_put HRV.out _ _)
     replace HW0 := Lib.hid (show Below wmlo.heap.size wmlo W16 by rw [← hWn]; exact below_setc HW0.out HBK.out _ _)
     replace HA := Lib.hid (show At2 W16 w.heap.size (.int .i64 m) (.slice ao L cap) from HAS.out.below HW0.out)
     clear hWn
     refine hK.out _ _ ⟨HA.out.2.1, HA.out.2.2.1⟩ (fun hHeld => ?_)
     clear hK K; apply tm 11
     refine wpAnyH_done (by kernel_rfl) ?_ _
     clear hHeld
     refine ⟨rfl, vmk, ahi, chi, rhi, ?_, Hhi.out, HRV.out, HBK.out, HW0.out⟩
     try simp only [Act.put, List.setIfInBounds_toArray, List.set_cons_zero, List.set_cons_succ]
     all_goals first | rfl | kernel_rfl
    refine AllReadyH.cons (o := _) rfl (fun K hK => ?_) ?_
    ·clear hHeld; go_simp
     obtain ⟨W14, hWn, hB, hNB⟩ := ahd2 W13 (.int .i64 0) (.slice none 0 0) 63
     have hbk : wmlo.heap.size ≤ W13.heap.size := HW0.out.size
     rw [hWn]; clear hWn
     obtain ⟨rhi, hnm⟩ : ∃ x, W13.heap.size = x := ⟨_, rfl⟩
     rw [hnm] at hNB hbk ⊢
     replace HV := HV.go hB; replace HA := HA.go hB; replace HW0 := cb hB HW0; replace Hmk := Hmk.go hB; have HRV := Lib.hid hNB; have HBK := Lib.hid hbk; clear hNB hB hnm hbk
     refine hK.out _ _ ⟨HA.out.2.1, HA.out.2.2.1⟩ (fun hHeld => ?_)
     clear hK K
     apply rdy 5; intro K hK; clear hHeld; go_simp
     refine (truth_yes t HTW.out _ vmk l (List.replicate m true) _ HV.out Hmk.out (by rw [List.length_replicate]; exact HM.out) HL.out).mono ?_
     rintro e W15 ⟨vhi, rfl, hhi, hB⟩
     replace HV := HV.go hB; replace HA := HA.go hB; replace HW0 := cb hB HW0; replace Hmk := Hmk.go hB; replace HRV := HRV.go hB
     rw [HHI.out] at hhi
     have Hhi := Lib.hid hhi
     obtain ⟨ahi, chi, rfl, hchi⟩ := hhi.opened
     clear hhi hchi; clear hB
     refine hK.out _ _ ⟨HA.out.2.1, HA.out.2.2.1⟩ (fun hHeld => ?_)
     clear hK K; apply tm 6; apply tm 7; apply tm 8
     apply rdy 10; intro K hK; clear hHeld; have s0 := HRV.out.2.1; have t0 := HRV.out.2.2.2 0; have s1 := HRV.out.2.2.1; have t1 := HRV.out.2.2.2 1; go_simp; clear s0 t0 s1 t1
     obtain ⟨W16, hWn⟩ : ∃ xw9, (W15.setCell ⟨rhi, 0, none⟩ (.int .i64 hi.length)).setCell ⟨rhi, 1, none⟩ (.slice ahi ((hi.length + 63) / 64) chi) = xw9 := ⟨_, rfl⟩
     rw [hWn]
     replace Hhi := Lib.hid (show IsBits W16 (.agg #[.int .i64 hi.length, .slice ahi ((hi.length + 63) / 64) chi]) hi by rw [← hWn]; exact Hhi.out.set2 HRV.out _ _)
     replace HRV := Lib.hid (show At2 W16 rhi (.int .i64 hi.length) (.slice ahi ((hi.length + 63) / 64) chi) by rw [← hWn]; exact at2_put HRV.out _ _)
     replace HW0 := Lib.hid (show Below wmlo.heap.size wmlo W16 by rw [← hWn]; exact below_setc HW0.out HBK.out _ _)
     replace HA := Lib.hid (show At2 W16 w.heap.size (.int .i64 m) (.slice ao L cap) from HAS.out.below HW0.out)
     clear hWn
     refine hK.out _ _ ⟨HA.out.2.1, HA.out.2.2.1⟩ (fun hHeld => ?_)
     clear hK K; apply tm 11
     refine wpAnyH_done (by kernel_rfl) ?_ _
     clear hHeld
     refine ⟨rfl, vmk, ahi, chi, rhi, ?_, Hhi.out, HRV.out, HBK.out, HW0.out⟩
     try simp only [Act.put, List.setIfInBounds_toArray, List.set_cons_zero, List.set_cons_succ]
     all_goals first | rfl | kernel_rfl
    exact AllReadyH.nil
   refine AllReadyH.cons (o := _) rfl (fun K hK => ?_) ?_
   ·clear hHeld; go_simp
    obtain ⟨W13, hWn, hB, hNB⟩ := ahd2 W12 (.int .i64 0) (.slice none 0 0) 63
    have hbk : wmlo.heap.size ≤ W12.heap.size := HW0.out.size
    rw [hWn]; clear hWn
    obtain ⟨rhi, hnm⟩ : ∃ x, W12.heap.size = x := ⟨_, rfl⟩
    rw [hnm] at hNB hbk ⊢
    replace HV := HV.go hB; replace HA := HA.go hB; replace HW0 := cb hB HW0; have HRV := Lib.hid hNB; have HBK := Lib.hid hbk; clear hNB hB hnm hbk
    refine hK.out _ _ ⟨HA.out.2.1, HA.out.2.2.1⟩ (fun hHeld => ?_)
    clear hK K
    apply rdy 4; intro K hK; clear hHeld; go_simp
    refine (make_calls _ true m HMK.out _).mono ?_
    rintro e W14 ⟨vmk, rfl, hmk, hB⟩
    replace HV := HV.go hB; replace HA := HA.go hB; replace HW0 := cb hB HW0; replace HRV := HRV.go hB; have Hmk := Lib.hid hmk; clear hmk; clear hB
    refine hK.out _ _ ⟨HA.out.2.1, HA.out.2.2.1⟩ (fun hHeld => ?_)
    clear hK K
    apply rdy 5; intro K hK; clear hHeld; go_simp
    refine (truth_yes t HTW.out _ vmk l (List.replicate m true) _ HV.out Hmk.out (by rw [List.length_replicate]; exact HM.out) HL.out).mono ?_
    rintro e W15 ⟨vhi, rfl, hhi, hB⟩
    replace HV := HV.go hB; replace HA := HA.go hB; replace HW0 := cb hB HW0; replace HRV := HRV.go hB; replace Hmk := Hmk.go hB
    rw [HHI.out] at hhi
    have Hhi := Lib.hid hhi
    obtain ⟨ahi, chi, rfl, hchi⟩ := hhi.opened
    clear hhi hchi; clear hB
    refine hK.out _ _ ⟨HA.out.2.1, HA.out.2.2.1⟩ (fun hHeld => ?_)
    clear hK K; apply tm 6; apply tm 7; apply tm 8
    apply rdy 10; intro K hK; clear hHeld; have s0 := HRV.out.2.1; have t0 := HRV.out.2.2.2 0; have s1 := HRV.out.2.2.1; have t1 := HRV.out.2.2.2 1; go_simp; clear s0 t0 s1 t1
    obtain ⟨W16, hWn⟩ : ∃ xw9, (W15.setCell ⟨rhi, 0, none⟩ (.int .i64 hi.length)).setCell ⟨rhi, 1, none⟩ (.slice ahi ((hi.length + 63) / 64) chi) = xw9 := ⟨_, rfl⟩
    rw [hWn]
    replace Hhi := Lib.hid (show IsBits W16 (.agg #[.int .i64 hi.length, .slice ahi ((hi.length + 63) / 64) chi]) hi by rw [← hWn]; exact Hhi.out.set2 HRV.out _ _)
    replace HRV := Lib.hid (show At2 W16 rhi (.int .i64 hi.length) (.slice ahi ((hi.length + 63) / 64) chi) by rw [← hWn]; exact at2_put HRV.out _ _)
    replace HW0 := Lib.hid (show Below wmlo.heap.size wmlo W16 by rw [← hWn]; exact below_setc HW0.out HBK.out _ _)
    replace HA := Lib.hid (show At2 W16 w.heap.size (.int .i64 m) (.slice ao L cap) from HAS.out.below HW0.out)
    clear hWn
    refine hK.out _ _ ⟨HA.out.2.1, HA.out.2.2.1⟩ (fun hHeld => ?_)
    clear hK K; apply tm 11
    refine wpAnyH_done (by kernel_rfl) ?_ _
    clear hHeld
    refine ⟨rfl, vmk, ahi, chi, rhi, ?_, Hhi.out, HRV.out, HBK.out, HW0.out⟩
    try simp only [Act.put, List.setIfInBounds_toArray, List.set_cons_zero, List.set_cons_succ]
    all_goals first | rfl | kernel_rfl
   exact AllReadyH.nil
  refine AllReadyH.cons (o := _) rfl (fun K hK => ?_) ?_
  ·clear hHeld; go_simp
   obtain ⟨W12, hWn, hB, hNB⟩ := ahd2 W11 (.int .i64 0) (.slice none 0 0) 63
   have hbk : wmlo.heap.size ≤ W11.heap.size := HW0.out.size
   rw [hWn]; clear hWn
   obtain ⟨rhi, hnm⟩ : ∃ x, W11.heap.size = x := ⟨_, rfl⟩
   rw [hnm] at hNB hbk ⊢
   replace HV := HV.go hB; replace HA := HA.go hB; replace HW0 := cb hB HW0; have HRV := Lib.hid hNB; have HBK := Lib.hid hbk; clear hNB hB hnm hbk
   refine hK.out _ _ ⟨HA.out.2.1, HA.out.2.2.1⟩ (fun hHeld => ?_)
   clear hK K
   apply rdy 3; intro K hK; clear hHeld; go_simp
   refine (len_calls _ l _ HV.out).mono ?_
   rintro e W13 ⟨rfl, hB⟩
   replace HV := HV.go hB; replace HA := HA.go hB; replace HW0 := cb hB HW0; replace HRV := HRV.go hB; rw [HM.out]; clear hB
   refine hK.out _ _ ⟨HA.out.2.1, HA.out.2.2.1⟩ (fun hHeld => ?_)
   clear hK K
   apply rdy 4; intro K hK; clear hHeld; go_simp
   refine (make_calls _ true m HMK.out _).mono ?_
   rintro e W14 ⟨vmk, rfl, hmk, hB⟩
   replace HV := HV.go hB; replace HA := HA.go hB; replace HW0 := cb hB HW0; replace HRV := HRV.go hB; have Hmk := Lib.hid hmk; clear hmk; clear hB
   refine hK.out _ _ ⟨HA.out.2.1, HA.out.2.2.1⟩ (fun hHeld => ?_)
   clear hK K
   apply rdy 5; intro K hK; clear hHeld; go_simp
   refine (truth_yes t HTW.out _ vmk l (List.replicate m true) _ HV.out Hmk.out (by rw [List.length_replicate]; exact HM.out) HL.out).mono ?_
   rintro e W15 ⟨vhi, rfl, hhi, hB⟩
   replace HV := HV.go hB; replace HA := HA.go hB; replace HW0 := cb hB HW0; replace HRV := HRV.go hB; replace Hmk := Hmk.go hB
   rw [HHI.out] at hhi
   have Hhi := Lib.hid hhi
   obtain ⟨ahi, chi, rfl, hchi⟩ := hhi.opened
   clear hhi hchi; clear hB
   refine hK.out _ _ ⟨HA.out.2.1, HA.out.2.2.1⟩ (fun hHeld => ?_)
   clear hK K; apply tm 6; apply tm 7; apply tm 8
   apply rdy 10; intro K hK; clear hHeld; have s0 := HRV.out.2.1; have t0 := HRV.out.2.2.2 0; have s1 := HRV.out.2.2.1; have t1 := HRV.out.2.2.2 1; go_simp; clear s0 t0 s1 t1
   obtain ⟨W16, hWn⟩ : ∃ xw9, (W15.setCell ⟨rhi, 0, none⟩ (.int .i64 hi.length)).setCell ⟨rhi, 1, none⟩ (.slice ahi ((hi.length + 63) / 64) chi) = xw9 := ⟨_, rfl⟩
   rw [hWn]
   replace Hhi := Lib.hid (show IsBits W16 (.agg #[.int .i64 hi.length, .slice ahi ((hi.length + 63) / 64) chi]) hi by rw [← hWn]; exact Hhi.out.set2 HRV.out _ _)
   replace HRV := Lib.hid (show At2 W16 rhi (.int .i64 hi.length) (.slice ahi ((hi.length + 63) / 64) chi) by rw [← hWn]; exact at2_put HRV.out _ _)
   replace HW0 := Lib.hid (show Below wmlo.heap.size wmlo W16 by rw [← hWn]; exact below_setc HW0.out HBK.out _ _)
   replace HA := Lib.hid (show At2 W16 w.heap.size (.int .i64 m) (.slice ao L cap) from HAS.out.below HW0.out)
   clear hWn
   refine hK.out _ _ ⟨HA.out.2.1, HA.out.2.2.1⟩ (fun hHeld => ?_)
   clear hK K; apply tm 11
   refine wpAnyH_done (by kernel_rfl) ?_ _
   clear hHeld
   refine ⟨rfl, vmk, ahi, chi, rhi, ?_, Hhi.out, HRV.out, HBK.out, HW0.out⟩
   try simp only [Act.put, List.setIfInBounds_toArray, List.set_cons_zero, List.set_cons_succ]
   all_goals first | rfl | kernel_rfl
  exact AllReadyH.nil
 rintro _ wmhi ⟨vmk, ahi, chi, rhi, rfl, hhi, hAhi, hGhi, hB⟩
 have Hhi := Lib.hid hhi; have HVhi := Lib.hid hAhi; have HGhi := Lib.hid hGhi; clear hhi hAhi hGhi; replace HB := cb hB HB; replace HV := HV.go hB; replace HT := HT.go hB; replace HA := HA.go hB; replace HR := HR.go hB; replace Hlo := Hlo.go hB; replace HVlo := HVlo.go hB; clear hB
 simp only [Act.put, List.setIfInBounds_toArray, List.set_cons_zero, List.set_cons_succ]
 have cHA0 := HA.out.2.1; have cHA1 := HA.out.2.2.1; have cHR0 := HR.out.2.1; have cHVlo0 := HVlo.out.2.1; have cHVlo1 := HVlo.out.2.2.1; have cHVhi0 := HVhi.out.2.1; have cHVhi1 := HVhi.out.2.2.1
 go_wp2_with fail
 refine (truth_yes 9 (by decide) _ _ lo hi _ Hlo.out Hhi.out (by rw [HLOM.out, HHIM.out]) (by rw [HLOM.out]; exact HMM.out)).mono ?_
 rintro e W11 ⟨vse, rfl, hse, hB⟩
 clear cHA0 cHA1 cHR0 cHVlo0 cHVlo1 cHVhi0 cHVhi1; replace HB := cb hB HB; replace HV := HV.go hB; replace HT := HT.go hB; replace HA := HA.go hB; replace HR := HR.go hB; replace Hlo := Hlo.go hB; replace HVlo := HVlo.go hB; replace Hhi := Hhi.go hB; replace HVhi := HVhi.go hB
 rw [HSE.out] at hse
 have Hse := Lib.hid hse
 obtain ⟨ase, cse, rfl, hcse⟩ := hse.opened
 clear hse hcse; clear hB
 obtain ⟨W12, hWn, hB, hNB⟩ := ahd2 W11 (.int .i64 se.length) (.slice ase ((se.length + 63) / 64) cse) 63
 replace HB := cb hB HB; replace HV := HV.go hB; replace HT := HT.go hB; replace HA := HA.go hB; replace HR := HR.go hB; replace Hlo := Hlo.go hB; replace HVlo := HVlo.go hB; replace Hhi := Hhi.go hB; replace HVhi := HVhi.go hB; replace Hse := Hse.go hB; have HVse := Lib.hid hNB; clear hNB hB; have cHA0 := HA.out.2.1; have cHA1 := HA.out.2.2.1; have cHR0 := HR.out.2.1; have cHVlo0 := HVlo.out.2.1
 have cHVlo1 := HVlo.out.2.2.1; have cHVhi0 := HVhi.out.2.1; have cHVhi1 := HVhi.out.2.2.1; have cHVse0 := HVse.out.2.1; have cHVse1 := HVse.out.2.2.1
 go_wp2_with fail
 clear hWn
 refine (truth_yes 4 (by decide) _ _ lo hi _ Hlo.out Hhi.out (by rw [HLOM.out, HHIM.out]) (by rw [HLOM.out]; exact HMM.out)).mono ?_
 rintro e W13 ⟨vfl, rfl, hfl, hB⟩
 clear cHA0 cHA1 cHR0 cHVlo0 cHVlo1 cHVhi0 cHVhi1 cHVse0 cHVse1; replace HB := cb hB HB; replace HV := HV.go hB; replace HT := HT.go hB; replace HA := HA.go hB; replace HR := HR.go hB; replace Hlo := Hlo.go hB; replace HVlo := HVlo.go hB; replace Hhi := Hhi.go hB; replace HVhi := HVhi.go hB; replace Hse := Hse.go hB; replace HVse := HVse.go hB
 rw [HFL.out] at hfl
 have Hfl := Lib.hid hfl
 obtain ⟨afl, cfl, rfl, hcfl⟩ := hfl.opened
 clear hfl hcfl; clear hB
 obtain ⟨W14, hWn, hB, hNB⟩ := ahd2 W13 (.int .i64 fl.length) (.slice afl ((fl.length + 63) / 64) cfl) 63
 replace HB := cb hB HB; replace HV := HV.go hB; replace HT := HT.go hB; replace HA := HA.go hB; replace HR := HR.go hB; replace Hlo := Hlo.go hB; replace HVlo := HVlo.go hB; replace Hhi := Hhi.go hB; replace HVhi := HVhi.go hB; replace Hse := Hse.go hB; replace HVse := HVse.go hB; replace Hfl := Hfl.go hB; have HVfl := Lib.hid hNB; clear hNB hB
 obtain ⟨D, hD⟩ : ∃ D, 2 * outer = D := ⟨_, rfl⟩
 have HD := Lib.hid hD; have hom := HOM.out
 have qD : IntKind.i64.wrap (2 * (outer : Int)) = (D : Int) := by rw [show 2 * (outer : Int) = ((D : Nat) : Int) by omega]; exact IntWalk.i64_in _ (by omega)
 have HDX := Lib.hid (show D ≤ maxLen by unfold maxLen; omega)
 have HDY := Lib.hid (show i0.bytes * D ≤ 281474976710656 by rw [HI0.out.2.2.2]; omega)
 obtain ⟨bk, hbk⟩ : ∃ bk, W14.heap.size = bk := ⟨_, rfl⟩
 have HBK := Lib.hid hbk; clear hD hom; have cHVfl0 := HVfl.out.2.1; have cHVfl1 := HVfl.out.2.2.1
 go_wp2_with ((with_reducible refine wpList_make_own _ rfl _ _ 124 rfl bk 25 i0 (.agg #[.nilIface]) 1 Tryz.underlying124 HI0.out.1 HI0.out.2.1 HI0.out.2.2.1 .i64 .i64 _ D rfl rfl rfl HDY.out HDX.out (Nat.le_of_eq HBK.out.symm) ?_))
 clear hWn hbk qD
 intro W2 hown hgr
 have HKW := Lib.hid (show Below W14.heap.size W14 W2 from (Below.refl _ _).grown hgr (Nat.le_refl _) (fun k hk => by cases hk))
 have HVR := Lib.hid (show VR bk 0 _ [] W2 from ⟨hown, fun p hp => by cases hp⟩)
 clear hown hgr; clear cHVfl0 cHVfl1
 have HB0 := HB
 have HV0 := HV
 have HT0 := HT
 have HA0 := HA
 have HR0 := HR
 have Hlo0 := Hlo
 have HVlo0 := HVlo
 have Hse0 := Hse
 have HVse0 := HVse
 have Hfl0 := Hfl
 have HVfl0 := HVfl
 clear HB HV HT HA HR Hlo HVlo Hse HVse Hfl HVfl
 go_wp2_with fail
 go_loopw [17, 58] (fun vz i wr => ∃ (o : Nat) (Z : List (Value × VV)), o ≤ outer ∧ i = .int .i64 o ∧ VR bk (2 * o) vz Z wr ∧ AllBits Z ∧ (Z.flatMap fun p => p.2.packed) = (upB t l outer n 1).take (o * n) ∧ Below W14.heap.size W14 wr) (fun _ i _ => outer - (intOf i).toNat)
 case atStart => exact ⟨0, [], by omega, rfl, HVR.out, (fun p hp => by cases hp), by simp, HKW.out⟩
 case round =>
  obtain ⟨o, Z, ho, rfl, hvr, hab, hfl, hbw⟩ := hrel
  clear HVR HKW
  have HB := Lib.hid (HB0.out.trans (hbw.mono HB0.out.size))
  have HV := Lib.hid (HV0.out.keep (keep_below hbw))
  have HT := HT0.go hbw
  have HA := Lib.hid (HA0.out.below hbw)
  have HR := Lib.hid (HR0.out.below hbw)
  have Hlo := Lib.hid (Hlo0.out.keep (keep_below hbw))
  have HVlo := Lib.hid (HVlo0.out.below hbw)
  have Hse := Lib.hid (Hse0.out.keep (keep_below hbw))
  have HVse := Lib.hid (HVse0.out.below hbw)
  have Hfl := Lib.hid (Hfl0.out.keep (keep_below hbw))
  have HVfl := Lib.hid (HVfl0.out.below hbw)
  have HVR := Lib.hid hvr; have HAB := Lib.hid hab; have HFF := Lib.hid hfl; have HKW := Lib.hid hbw; clear hvr hab hfl hbw
  by_cases hlt : o < outer
  ·have HLT := Lib.hid hlt
   obtain ⟨x, hx⟩ : ∃ x, o * n = x := ⟨_, rfl⟩
   obtain ⟨y, hy⟩ : ∃ y, (o + 1) * n = y := ⟨_, rfl⟩
   have hxy : x + n = y := by rw [← hx, ← hy, Nat.add_mul]; omega
   have hym : y ≤ m := by rw [← HM.out, HLL.out, ← hy]; exact Nat.mul_le_mul_right _ hlt
   obtain ⟨r, hr⟩ : ∃ r, (l.take y).drop x = r := ⟨_, rfl⟩
   have hrl : r.length = n := by rw [← hr, cut_len l (by omega) (by rw [HM.out]; exact hym)]; omega
   have HRL := Lib.hid hrl
   have HRG := Lib.hid (show lineG false l n 1 o 0 = r by rw [← hr, ← hx, ← hy]; exact (line_cut l HLL.out hlt).symm)
   have HRP := Lib.hid hr
   have HRS := Lib.hid (show (se.take y).drop x = r.map (settB t) by rw [← hr, ← HSX.out, List.map_drop, List.map_take])
   have HRF := Lib.hid (show (fl.take y).drop x = r.map (flipB t) by rw [← hr, ← HFX.out, List.map_drop, List.map_take])
   have HRO := Lib.hid (show (lo.take y).drop x = r.map (fun x => lowB t x) by
    rw [← hr, ← HLX.out, List.map_drop, List.map_take]; rfl)
   have HYS := Lib.hid (show y ≤ se.length by rw [HSEM.out]; exact hym)
   have HYF := Lib.hid (show y ≤ fl.length by rw [HFLM.out]; exact hym)
   have HYO := Lib.hid (show y ≤ lo.length by rw [HLOM.out]; exact hym)
   have HYL := Lib.hid (show y ≤ l.length by rw [HM.out]; exact hym)
   have HXX := Lib.hid hx; have HYY := Lib.hid hy
   obtain ⟨od, hod⟩ : ∃ od, oddL t r = od := ⟨_, rfl⟩
   have HOD := Lib.hid (show ((List.range (r.map (flipB t)).length).map fun k => pfx (sq (r.map (flipB t))) k) = od by rw [odd_pfx, hod])
   have HOL := Lib.hid (show od.length = n by rw [← hod, oddL_len, hrl])
   obtain ⟨F, hF⟩ : ∃ F, firstOf (r.map (settB t)) = F := ⟨_, rfl⟩
   have HF := Lib.hid hF
   have HFN := Lib.hid (show F ≤ n by
    rw [← hF]; unfold firstOf
    cases e : ((List.range (r.map (settB t)).length).filter (sq (r.map (settB t)))).head? with
    | none => simp [hrl]
    | some z =>
     have h9 := (List.mem_filter.1 (List.mem_of_mem_head? e)).1
     rw [List.length_map, hrl] at h9
     have := List.mem_range.1 h9
     simp; omega)
   have HRU := Lib.hid (rowU_settle t r hF)
   rw [hod, hrl] at HRU
   have HSL := Lib.hid (show (r.map (settB t)).length ≤ 1048576 by rw [List.length_map, hrl]; exact HNO.out)
   have HPL2 := Lib.hid (show (r.map (flipB t)).length = n by rw [List.length_map, hrl])
   have HLL2 := Lib.hid (show (r.map (fun x => lowB t x)).length ≤ 1048576 by rw [List.length_map, hrl]; exact HNO.out)
   obtain ⟨s1, hs1⟩ : ∃ s1, sqI (r.map fun x => lowB t x) (F : Int) = s1 := ⟨_, rfl⟩
   obtain ⟨s2, hs2⟩ : ∃ s2, sqI od (F : Int) = s2 := ⟨_, rfl⟩
   have HS1 := Lib.hid hs1; have HS2 := Lib.hid hs2
   rw [hs1, hs2] at HRU
   clear hx hy hxy hym hr hrl hod hF hs1 hs2; have cHVfl0 := HVfl.out.2.1; have cHVfl1 := HVfl.out.2.2.1
   go_wp2_with fail
   refine (scpiece_calls _ fl o n x y _ Hfl.out (by rw [HFLM.out]; exact HMM.out) HN.out HXX.out HYY.out HYF.out).mono ?_
   rintro e W15 ⟨vpf, rfl, hvpf, hB⟩
   clear cHVfl0 cHVfl1; replace HB := cb hB HB; replace HV := HV.go hB; replace HT := HT.go hB; replace HA := HA.go hB; replace HR := HR.go hB; replace Hlo := Hlo.go hB; replace HVlo := HVlo.go hB; replace Hse := Hse.go hB; replace HVse := HVse.go hB; replace Hfl := Hfl.go hB; replace HVfl := HVfl.go hB; replace HVR := HVR.go hB; replace HKW := cb hB HKW
   rw [HRF.out] at hvpf
   have Hvpf := Lib.hid hvpf; clear hvpf; clear hB; have cHVfl0 := HVfl.out.2.1; have cHVfl1 := HVfl.out.2.2.1
   go_wp2_with fail
   refine (scbefore_calls _ (r.map (flipB t)) n _ Hvpf.out HPL2.out HNO.out).mono ?_
   rintro e W16 ⟨vod, rfl, hod, hB⟩
   clear cHVfl0 cHVfl1; replace HB := cb hB HB; replace HV := HV.go hB; replace HT := HT.go hB; replace HA := HA.go hB; replace HR := HR.go hB; replace Hlo := Hlo.go hB; replace HVlo := HVlo.go hB; replace Hse := Hse.go hB; replace HVse := HVse.go hB; replace Hfl := Hfl.go hB; replace HVfl := HVfl.go hB; replace HVR := HVR.go hB; replace HKW := cb hB HKW; replace Hvpf := Hvpf.go hB
   rw [HOD.out] at hod
   obtain ⟨aod, cod, rfl, _⟩ := hod.opened
   have Hod := Lib.hid hod; clear hod; clear hB
   obtain ⟨W17, hWn, hB, hNB⟩ := ahd2 W16 (.int .i64 od.length) (.slice aod ((od.length + 63) / 64) cod) 63
   replace HB := cb hB HB; replace HV := HV.go hB; replace HT := HT.go hB; replace HA := HA.go hB; replace HR := HR.go hB; replace Hlo := Hlo.go hB; replace HVlo := HVlo.go hB; replace Hse := Hse.go hB; replace HVse := HVse.go hB; replace Hfl := Hfl.go hB; replace HVfl := HVfl.go hB; replace HVR := HVR.go hB; replace HKW := cb hB HKW; replace Hvpf := Hvpf.go hB; replace Hod := Hod.go hB; have HVod := Lib.hid hNB
   clear hNB hB
   obtain ⟨bo, hbo⟩ : ∃ bo, W16.heap.size = bo := ⟨_, rfl⟩
   rw [hbo] at HVod
   have cHVfl0 := HVfl.out.2.1; have cHVfl1 := HVfl.out.2.2.1; have cHVod0 := HVod.out.2.1; have cHVod1 := HVod.out.2.2.1
   go_wp2_with fail
   clear hWn hbo
   obtain ⟨fp, hfp⟩ : ∃ fp, List.zipWith (tab 6) r od = fp := ⟨_, rfl⟩
   have HFP := Lib.hid hfp
   have HFPL := Lib.hid (show fp.length = n by rw [← hfp]; exact tabs_len HRL.out HOL.out)
   rw [hfp] at HRU
   clear hfp; clear cHVfl0 cHVfl1 cHVod0 cHVod1
   refine wp_mid (fun s0 s1 w' => ∃ (vpp : Value) (afp : Option Addr) (cfp rfp : Nat), s1 = (((((((((((s0.put (some 67) (.agg #[.int .i64 m, .slice ao L cap])).put (some 68) (.int .i64 (o : Int))).put (some 69) (.int .i64 (n : Int))).put (some 70) vpp).put (some 71) (.agg #[.int .i64 od.length, .slice aod ((od.length + 63) / 64) cod])).put (some 72) (.tuple #[(.agg #[.int .i64 fp.length, .slice afp ((fp.length + 63) / 64) cfp]), .bool true])).put (some 66) (.tuple #[(.agg #[.int .i64 fp.length, .slice afp ((fp.length + 63) / 64) cfp]), .bool true])).put (some 73) (.agg #[.int .i64 fp.length, .slice afp ((fp.length + 63) / 64) cfp])).put (some 74) (.bool true)).put (some 20) (.pointer (some ⟨rfp, 0, none⟩))).put (some 21) (.bool true)) ∧ IsBits w' (.agg #[.int .i64 fp.length, .slice afp ((fp.length + 63) / 64) cfp]) fp ∧ At2 w' rfp (.int .i64 fp.length) (.slice afp ((fp.length + 63) / 64) cfp) ∧ W17.heap.size ≤ rfp ∧ Below W17.heap.size W17 w') ?_ ?_
   ·have HW0 := Lib.hid (Below.refl W17.heap.size W17)
    have HAS := HA
    have HVodS := HVod
    obtain ⟨W18, hWD, hB⟩ := drwn W17
    replace HV := HV.go hB; replace HA := HA.go hB; replace Hod := Hod.go hB; replace HVod := HVod.go hB; replace HW0 := cb hB HW0; clear hB
    refine rgn (S := fun w' => w'.cell? ⟨w.heap.size, 0, none⟩ = some (.int .i64 m) ∧ w'.cell? ⟨w.heap.size, 1, none⟩ = some (.slice ao L cap) ∧ w'.cell? ⟨bo, 0, none⟩ = some (.int .i64 od.length) ∧ w'.cell? ⟨bo, 1, none⟩ = some (.slice aod ((od.length + 63) / 64) cod)) hWD ⟨HA.out.2.1, HA.out.2.2.1, HVod.out.2.1, HVod.out.2.2.1⟩ (fun hHeld => ?_)
    clear hWD; apply tm 0; apply tm 1; apply tm 2; apply tm 4
    refine wpAnyH_ready (rs := [3, 9]) (by kernel_rfl) (by simp) ?_
    refine AllReadyH.cons (o := _) rfl (fun K hK => ?_) ?_
    ·clear hHeld; go_simp
     refine (scpiece_calls _ l o n x y _ HV.out HL.out HN.out HXX.out HYY.out HYL.out).mono ?_
     rintro e W19 ⟨vpp, rfl, hvpp, hB⟩
     replace HV := HV.go hB; replace HA := HA.go hB; replace Hod := Hod.go hB; replace HVod := HVod.go hB; replace HW0 := cb hB HW0
     rw [HRP.out] at hvpp
     have Hvpp := Lib.hid hvpp; clear hvpp; clear hB
     refine hK.out _ _ ⟨HA.out.2.1, HA.out.2.2.1, HVod.out.2.1, HVod.out.2.2.1⟩ (fun hHeld => ?_)
     clear hK K
     refine wpAnyH_ready (rs := [5, 9]) (by kernel_rfl) (by simp) ?_
     refine AllReadyH.cons (o := _) rfl (fun K hK => ?_) ?_
     ·clear hHeld; go_simp
      refine (truth_yes 6 (by decide) vpp _ r od _ Hvpp.out Hod.out (by rw [HRL.out, HOL.out]) (by rw [HRL.out]; exact HNO.out)).mono ?_
      rintro e W20 ⟨vfp, rfl, hfp, hB⟩
      replace HV := HV.go hB; replace HA := HA.go hB; replace Hod := Hod.go hB; replace HVod := HVod.go hB; replace HW0 := cb hB HW0; replace Hvpp := Hvpp.go hB
      rw [HFP.out] at hfp
      have Hfp := Lib.hid hfp
      obtain ⟨afp, cfp, rfl, hcfp⟩ := hfp.opened
      clear hfp hcfp; clear hB
      refine hK.out _ _ ⟨HA.out.2.1, HA.out.2.2.1, HVod.out.2.1, HVod.out.2.2.1⟩ (fun hHeld => ?_)
      clear hK K; apply tm 6; apply tm 7; apply tm 8
      apply rdy 9; intro K hK; clear hHeld; go_simp
      obtain ⟨W21, hWn, hB, hNB⟩ := ahd2 W20 (.int .i64 0) (.slice none 0 0) 63
      have hbk : W17.heap.size ≤ W20.heap.size := HW0.out.size
      rw [hWn]; clear hWn
      obtain ⟨rfp, hnm⟩ : ∃ x, W20.heap.size = x := ⟨_, rfl⟩
      rw [hnm] at hNB hbk ⊢
      replace HV := HV.go hB; replace HA := HA.go hB; replace Hod := Hod.go hB; replace HVod := HVod.go hB; replace HW0 := cb hB HW0; replace Hvpp := Hvpp.go hB; replace Hfp := Hfp.go hB; have HRV := Lib.hid hNB; have HBK := Lib.hid hbk; clear hNB hB hnm hbk
      refine hK.out _ _ ⟨HA.out.2.1, HA.out.2.2.1, HVod.out.2.1, HVod.out.2.2.1⟩ (fun hHeld => ?_)
      clear hK K
      apply rdy 10; intro K hK; clear hHeld; have s0 := HRV.out.2.1; have t0 := HRV.out.2.2.2 0; have s1 := HRV.out.2.2.1; have t1 := HRV.out.2.2.2 1; go_simp; clear s0 t0 s1 t1
      obtain ⟨W22, hWn⟩ : ∃ xw9, (W21.setCell ⟨rfp, 0, none⟩ (.int .i64 fp.length)).setCell ⟨rfp, 1, none⟩ (.slice afp ((fp.length + 63) / 64) cfp) = xw9 := ⟨_, rfl⟩
      rw [hWn]
      replace Hfp := Lib.hid (show IsBits W22 (.agg #[.int .i64 fp.length, .slice afp ((fp.length + 63) / 64) cfp]) fp by rw [← hWn]; exact Hfp.out.set2 HRV.out _ _)
      replace HRV := Lib.hid (show At2 W22 rfp (.int .i64 fp.length) (.slice afp ((fp.length + 63) / 64) cfp) by rw [← hWn]; exact at2_put HRV.out _ _)
      replace HW0 := Lib.hid (show Below W17.heap.size W17 W22 by rw [← hWn]; exact below_setc HW0.out HBK.out _ _)
      replace HA := Lib.hid (show At2 W22 w.heap.size (.int .i64 m) (.slice ao L cap) from HAS.out.below HW0.out)
      replace HVod := Lib.hid (show At2 W22 bo (.int .i64 od.length) (.slice aod ((od.length + 63) / 64) cod) from HVodS.out.below HW0.out)
      clear hWn
      refine hK.out _ _ ⟨HA.out.2.1, HA.out.2.2.1, HVod.out.2.1, HVod.out.2.2.1⟩ (fun hHeld => ?_)
      clear hK K; apply tm 11
      refine wpAnyH_done (by kernel_rfl) ?_ _
      clear hHeld
      refine ⟨rfl, vpp, afp, cfp, rfp, ?_, Hfp.out, HRV.out, HBK.out, HW0.out⟩
      try simp only [Act.put, List.setIfInBounds_toArray, List.set_cons_zero, List.set_cons_succ]
      all_goals first | rfl | kernel_rfl
     refine AllReadyH.cons (o := _) rfl (fun K hK => ?_) ?_
     ·clear hHeld; go_simp
      obtain ⟨W20, hWn, hB, hNB⟩ := ahd2 W19 (.int .i64 0) (.slice none 0 0) 63
      have hbk : W17.heap.size ≤ W19.heap.size := HW0.out.size
      rw [hWn]; clear hWn
      obtain ⟨rfp, hnm⟩ : ∃ x, W19.heap.size = x := ⟨_, rfl⟩
      rw [hnm] at hNB hbk ⊢
      replace HV := HV.go hB; replace HA := HA.go hB; replace Hod := Hod.go hB; replace HVod := HVod.go hB; replace HW0 := cb hB HW0; replace Hvpp := Hvpp.go hB; have HRV := Lib.hid hNB; have HBK := Lib.hid hbk; clear hNB hB hnm hbk
      refine hK.out _ _ ⟨HA.out.2.1, HA.out.2.2.1, HVod.out.2.1, HVod.out.2.2.1⟩ (fun hHeld => ?_)
      clear hK K
      apply rdy 5; intro K hK; clear hHeld; go_simp
      refine (truth_yes 6 (by decide) vpp _ r od _ Hvpp.out Hod.out (by rw [HRL.out, HOL.out]) (by rw [HRL.out]; exact HNO.out)).mono ?_
      rintro e W21 ⟨vfp, rfl, hfp, hB⟩
      replace HV := HV.go hB; replace HA := HA.go hB; replace Hod := Hod.go hB; replace HVod := HVod.go hB; replace HW0 := cb hB HW0; replace Hvpp := Hvpp.go hB; replace HRV := HRV.go hB
      rw [HFP.out] at hfp
      have Hfp := Lib.hid hfp
      obtain ⟨afp, cfp, rfl, hcfp⟩ := hfp.opened
      clear hfp hcfp; clear hB
      refine hK.out _ _ ⟨HA.out.2.1, HA.out.2.2.1, HVod.out.2.1, HVod.out.2.2.1⟩ (fun hHeld => ?_)
      clear hK K; apply tm 6; apply tm 7; apply tm 8
      apply rdy 10; intro K hK; clear hHeld; have s0 := HRV.out.2.1; have t0 := HRV.out.2.2.2 0; have s1 := HRV.out.2.2.1; have t1 := HRV.out.2.2.2 1; go_simp; clear s0 t0 s1 t1
      obtain ⟨W22, hWn⟩ : ∃ xw9, (W21.setCell ⟨rfp, 0, none⟩ (.int .i64 fp.length)).setCell ⟨rfp, 1, none⟩ (.slice afp ((fp.length + 63) / 64) cfp) = xw9 := ⟨_, rfl⟩
      rw [hWn]
      replace Hfp := Lib.hid (show IsBits W22 (.agg #[.int .i64 fp.length, .slice afp ((fp.length + 63) / 64) cfp]) fp by rw [← hWn]; exact Hfp.out.set2 HRV.out _ _)
      replace HRV := Lib.hid (show At2 W22 rfp (.int .i64 fp.length) (.slice afp ((fp.length + 63) / 64) cfp) by rw [← hWn]; exact at2_put HRV.out _ _)
      replace HW0 := Lib.hid (show Below W17.heap.size W17 W22 by rw [← hWn]; exact below_setc HW0.out HBK.out _ _)
      replace HA := Lib.hid (show At2 W22 w.heap.size (.int .i64 m) (.slice ao L cap) from HAS.out.below HW0.out)
      replace HVod := Lib.hid (show At2 W22 bo (.int .i64 od.length) (.slice aod ((od.length + 63) / 64) cod) from HVodS.out.below HW0.out)
      clear hWn
      refine hK.out _ _ ⟨HA.out.2.1, HA.out.2.2.1, HVod.out.2.1, HVod.out.2.2.1⟩ (fun hHeld => ?_)
      clear hK K; apply tm 11
      refine wpAnyH_done (by kernel_rfl) ?_ _
      clear hHeld
      refine ⟨rfl, vpp, afp, cfp, rfp, ?_, Hfp.out, HRV.out, HBK.out, HW0.out⟩
      try simp only [Act.put, List.setIfInBounds_toArray, List.set_cons_zero, List.set_cons_succ]
      all_goals first | rfl | kernel_rfl
     exact AllReadyH.nil
    refine AllReadyH.cons (o := _) rfl (fun K hK => ?_) ?_
    ·clear hHeld; go_simp
     obtain ⟨W19, hWn, hB, hNB⟩ := ahd2 W18 (.int .i64 0) (.slice none 0 0) 63
     have hbk : W17.heap.size ≤ W18.heap.size := HW0.out.size
     rw [hWn]; clear hWn
     obtain ⟨rfp, hnm⟩ : ∃ x, W18.heap.size = x := ⟨_, rfl⟩
     rw [hnm] at hNB hbk ⊢
     replace HV := HV.go hB; replace HA := HA.go hB; replace Hod := Hod.go hB; replace HVod := HVod.go hB; replace HW0 := cb hB HW0; have HRV := Lib.hid hNB; have HBK := Lib.hid hbk; clear hNB hB hnm hbk
     refine hK.out _ _ ⟨HA.out.2.1, HA.out.2.2.1, HVod.out.2.1, HVod.out.2.2.1⟩ (fun hHeld => ?_)
     clear hK K
     apply rdy 3; intro K hK; clear hHeld; go_simp
     refine (scpiece_calls _ l o n x y _ HV.out HL.out HN.out HXX.out HYY.out HYL.out).mono ?_
     rintro e W20 ⟨vpp, rfl, hvpp, hB⟩
     replace HV := HV.go hB; replace HA := HA.go hB; replace Hod := Hod.go hB; replace HVod := HVod.go hB; replace HW0 := cb hB HW0; replace HRV := HRV.go hB
     rw [HRP.out] at hvpp
     have Hvpp := Lib.hid hvpp; clear hvpp; clear hB
     refine hK.out _ _ ⟨HA.out.2.1, HA.out.2.2.1, HVod.out.2.1, HVod.out.2.2.1⟩ (fun hHeld => ?_)
     clear hK K
     apply rdy 5; intro K hK; clear hHeld; go_simp
     refine (truth_yes 6 (by decide) vpp _ r od _ Hvpp.out Hod.out (by rw [HRL.out, HOL.out]) (by rw [HRL.out]; exact HNO.out)).mono ?_
     rintro e W21 ⟨vfp, rfl, hfp, hB⟩
     replace HV := HV.go hB; replace HA := HA.go hB; replace Hod := Hod.go hB; replace HVod := HVod.go hB; replace HW0 := cb hB HW0; replace HRV := HRV.go hB; replace Hvpp := Hvpp.go hB
     rw [HFP.out] at hfp
     have Hfp := Lib.hid hfp
     obtain ⟨afp, cfp, rfl, hcfp⟩ := hfp.opened
     clear hfp hcfp; clear hB
     refine hK.out _ _ ⟨HA.out.2.1, HA.out.2.2.1, HVod.out.2.1, HVod.out.2.2.1⟩ (fun hHeld => ?_)
     clear hK K; apply tm 6; apply tm 7; apply tm 8
     apply rdy 10; intro K hK; clear hHeld; have s0 := HRV.out.2.1; have t0 := HRV.out.2.2.2 0; have s1 := HRV.out.2.2.1; have t1 := HRV.out.2.2.2 1; go_simp; clear s0 t0 s1 t1
     obtain ⟨W22, hWn⟩ : ∃ xw9, (W21.setCell ⟨rfp, 0, none⟩ (.int .i64 fp.length)).setCell ⟨rfp, 1, none⟩ (.slice afp ((fp.length + 63) / 64) cfp) = xw9 := ⟨_, rfl⟩
     rw [hWn]
     replace Hfp := Lib.hid (show IsBits W22 (.agg #[.int .i64 fp.length, .slice afp ((fp.length + 63) / 64) cfp]) fp by rw [← hWn]; exact Hfp.out.set2 HRV.out _ _)
     replace HRV := Lib.hid (show At2 W22 rfp (.int .i64 fp.length) (.slice afp ((fp.length + 63) / 64) cfp) by rw [← hWn]; exact at2_put HRV.out _ _)
     replace HW0 := Lib.hid (show Below W17.heap.size W17 W22 by rw [← hWn]; exact below_setc HW0.out HBK.out _ _)
     replace HA := Lib.hid (show At2 W22 w.heap.size (.int .i64 m) (.slice ao L cap) from HAS.out.below HW0.out)
     replace HVod := Lib.hid (show At2 W22 bo (.int .i64 od.length) (.slice aod ((od.length + 63) / 64) cod) from HVodS.out.below HW0.out)
     clear hWn
     refine hK.out _ _ ⟨HA.out.2.1, HA.out.2.2.1, HVod.out.2.1, HVod.out.2.2.1⟩ (fun hHeld => ?_)
     clear hK K; apply tm 11
     refine wpAnyH_done (by kernel_rfl) ?_ _
     clear hHeld
     refine ⟨rfl, vpp, afp, cfp, rfp, ?_, Hfp.out, HRV.out, HBK.out, HW0.out⟩
     try simp only [Act.put, List.setIfInBounds_toArray, List.set_cons_zero, List.set_cons_succ]
     all_goals first | rfl | kernel_rfl
    exact AllReadyH.nil
   rintro _ wmfp ⟨vpp, afp, cfp, rfp, rfl, hfp, hAfp, hGfp, hB⟩
   have Hfp := Lib.hid hfp; have HVfp := Lib.hid hAfp; have HGfp := Lib.hid hGfp; clear hfp hAfp hGfp; replace HB := cb hB HB; replace HV := HV.go hB; replace HT := HT.go hB; replace HA := HA.go hB; replace HR := HR.go hB; replace Hlo := Hlo.go hB; replace HVlo := HVlo.go hB; replace Hse := Hse.go hB; replace HVse := HVse.go hB; replace Hfl := Hfl.go hB; replace HVfl := HVfl.go hB; replace HVR := HVR.go hB
   replace HKW := cb hB HKW; replace Hvpf := Hvpf.go hB; replace Hod := Hod.go hB; replace HVod := HVod.go hB; clear hB
   simp only [Act.put, List.setIfInBounds_toArray, List.set_cons_zero, List.set_cons_succ]
   have cHVse0 := HVse.out.2.1; have cHVse1 := HVse.out.2.2.1
   go_wp2_with fail
   refine (scpiece_calls _ se o n x y _ Hse.out (by rw [HSEM.out]; exact HMM.out) HN.out HXX.out HYY.out HYS.out).mono ?_
   rintro e W18 ⟨vps, rfl, hvps, hB⟩
   clear cHVse0 cHVse1; replace HB := cb hB HB; replace HV := HV.go hB; replace HT := HT.go hB; replace HA := HA.go hB; replace HR := HR.go hB; replace Hlo := Hlo.go hB; replace HVlo := HVlo.go hB; replace Hse := Hse.go hB; replace HVse := HVse.go hB; replace Hfl := Hfl.go hB; replace HVfl := HVfl.go hB; replace HVR := HVR.go hB; replace HKW := cb hB HKW; replace Hvpf := Hvpf.go hB; replace Hod := Hod.go hB
   replace HVod := HVod.go hB; replace Hfp := Hfp.go hB; replace HVfp := HVfp.go hB
   rw [HRS.out] at hvps
   have Hvps := Lib.hid hvps; clear hvps; clear hB; have cHVse0 := HVse.out.2.1; have cHVse1 := HVse.out.2.2.1
   go_wp2_with fail
   refine (first_calls _ (r.map (settB t)) _ Hvps.out HSL.out HT.out).mono ?_
   rintro e W19 ⟨rfl, hB⟩
   clear cHVse0 cHVse1; replace HB := cb hB HB; replace HV := HV.go hB; replace HT := HT.go hB; replace HA := HA.go hB; replace HR := HR.go hB; replace Hlo := Hlo.go hB; replace HVlo := HVlo.go hB; replace Hse := Hse.go hB; replace HVse := HVse.go hB; replace Hfl := Hfl.go hB; replace HVfl := HVfl.go hB; replace HVR := HVR.go hB; replace HKW := cb hB HKW; replace Hvpf := Hvpf.go hB; replace Hod := Hod.go hB
   replace HVod := HVod.go hB; replace Hfp := Hfp.go hB; replace HVfp := HVfp.go hB; replace Hvps := Hvps.go hB; rw [HF.out]; clear hB; have cHVse0 := HVse.out.2.1; have cHVse1 := HVse.out.2.2.1
   go_wp2_with fail
   clear cHVse0 cHVse1
   obtain ⟨W20, hWD, hB⟩ := drwn W19
   replace HB := cb hB HB; replace HV := HV.go hB; replace HT := HT.go hB; replace HA := HA.go hB; replace HR := HR.go hB; replace Hlo := Hlo.go hB; replace HVlo := HVlo.go hB; replace Hse := Hse.go hB; replace HVse := HVse.go hB; replace Hfl := Hfl.go hB; replace HVfl := HVfl.go hB; replace HVR := HVR.go hB; replace HKW := cb hB HKW; replace Hvpf := Hvpf.go hB; replace Hod := Hod.go hB; replace HVod := HVod.go hB
   replace Hfp := Hfp.go hB; replace HVfp := HVfp.go hB; replace Hvps := Hvps.go hB; clear hB
   refine rgn (S := fun w' => w'.cell? ⟨rlo, 0, none⟩ = some (.int .i64 lo.length) ∧ w'.cell? ⟨rlo, 1, none⟩ = some (.slice alo ((lo.length + 63) / 64) clo) ∧ w'.cell? ⟨bo, 0, none⟩ = some (.int .i64 od.length) ∧ w'.cell? ⟨bo, 1, none⟩ = some (.slice aod ((od.length + 63) / 64) cod)) hWD ⟨HVlo.out.2.1, HVlo.out.2.2.1, HVod.out.2.1, HVod.out.2.2.1⟩ (fun hHeld => ?_)
   clear hWD; apply tk 0; apply tk 1; apply tk 2; apply tk 4; apply tk 6; apply tk 7
   apply rdy 3; intro K hK; clear hHeld; go_simp
   refine (scpiece_calls _ lo o n x y _ Hlo.out (by rw [HLOM.out]; exact HMM.out) HN.out HXX.out HYY.out HYO.out).mono ?_
   rintro e W21 ⟨vpl, rfl, hvpl, hB⟩
   replace HB := cb hB HB; replace HV := HV.go hB; replace HT := HT.go hB; replace HA := HA.go hB; replace HR := HR.go hB; replace Hlo := Hlo.go hB; replace HVlo := HVlo.go hB; replace Hse := Hse.go hB; replace HVse := HVse.go hB; replace Hfl := Hfl.go hB; replace HVfl := HVfl.go hB; replace HVR := HVR.go hB; replace HKW := cb hB HKW; replace Hvpf := Hvpf.go hB; replace Hod := Hod.go hB; replace HVod := HVod.go hB
   replace Hfp := Hfp.go hB; replace HVfp := HVfp.go hB; replace Hvps := Hvps.go hB
   rw [HRO.out] at hvpl
   have Hvpl := Lib.hid hvpl; clear hvpl; clear hB
   refine hK.out _ _ ⟨HVlo.out.2.1, HVlo.out.2.2.1, HVod.out.2.1, HVod.out.2.2.1⟩ (fun hHeld => ?_)
   clear hK K
   apply rdy 5; intro K hK; clear hHeld; go_simp
   refine (at_calls _ (r.map fun x => lowB t x) (F : Int) _ Hvpl.out HLL2.out).mono ?_
   rintro e W22 ⟨rfl, hB⟩
   replace HB := cb hB HB; replace HV := HV.go hB; replace HT := HT.go hB; replace HA := HA.go hB; replace HR := HR.go hB; replace Hlo := Hlo.go hB; replace HVlo := HVlo.go hB; replace Hse := Hse.go hB; replace HVse := HVse.go hB; replace Hfl := Hfl.go hB; replace HVfl := HVfl.go hB; replace HVR := HVR.go hB; replace HKW := cb hB HKW; replace Hvpf := Hvpf.go hB; replace Hod := Hod.go hB; replace HVod := HVod.go hB
   replace Hfp := Hfp.go hB; replace HVfp := HVfp.go hB; replace Hvps := Hvps.go hB; replace Hvpl := Hvpl.go hB; rw [HS1.out]; clear hB
   refine hK.out _ _ ⟨HVlo.out.2.1, HVlo.out.2.2.1, HVod.out.2.1, HVod.out.2.2.1⟩ (fun hHeld => ?_)
   clear hK K
   apply rdy 8; intro K hK; clear hHeld; go_simp
   refine (at_calls _ od (F : Int) _ Hod.out (by rw [HOL.out]; exact HNO.out)).mono ?_
   rintro e W23 ⟨rfl, hB⟩
   replace HB := cb hB HB; replace HV := HV.go hB; replace HT := HT.go hB; replace HA := HA.go hB; replace HR := HR.go hB; replace Hlo := Hlo.go hB; replace HVlo := HVlo.go hB; replace Hse := Hse.go hB; replace HVse := HVse.go hB; replace Hfl := Hfl.go hB; replace HVfl := HVfl.go hB; replace HVR := HVR.go hB; replace HKW := cb hB HKW; replace Hvpf := Hvpf.go hB; replace Hod := Hod.go hB; replace HVod := HVod.go hB
   replace Hfp := Hfp.go hB; replace HVfp := HVfp.go hB; replace Hvps := Hvps.go hB; replace Hvpl := Hvpl.go hB; rw [HS2.out]; clear hB
   refine hK.out _ _ ⟨HVlo.out.2.1, HVlo.out.2.2.1, HVod.out.2.1, HVod.out.2.2.1⟩ (fun hHeld => ?_)
   clear hK K; apply tk 9; apply tk 10
   refine wpAnyH_done (by kernel_rfl) ?_ _
   clear hHeld
   obtain ⟨sb, hsb⟩ : ∃ sb, (!(s1 == s2)) = sb := ⟨_, rfl⟩
   have hsb2 : (s1 != s2) = sb := hsb
   rw [hsb2] at HRU
   clear hsb2
   obtain ⟨y0, hy0⟩ : ∃ y0, min (F + 1) n = y0 := ⟨_, rfl⟩
   obtain ⟨m0, hm0⟩ : ∃ m0, n - (F + 1) = m0 := ⟨_, rfl⟩
   rw [hy0, hm0] at HRU
   have hfn := HFN.out; have hno := HNO.out
   have HY0 := Lib.hid (show min (max ((F : Int) + 1) 0) fp.length = (y0 : Int) by rw [HFPL.out]; omega)
   have HX0 := Lib.hid (show min (max (0 : Int) 0) fp.length = ((0 : Nat) : Int) by rw [HFPL.out]; omega)
   have HYP := Lib.hid (show 0 < y0 by have := HN.out; omega)
   have HM0 := Lib.hid (show min (max ((n : Int) - (F : Int) - 1) 0) 1048576 = (m0 : Int) by omega)
   have HYN := Lib.hid (show y0 ≤ 1048576 ∧ m0 ≤ 1048576 by omega)
   clear hy0 hm0; have cHVfp0 := HVfp.out.2.1; have cHVfp1 := HVfp.out.2.2.1
   go_wp2_with fail
   try rw [hsb]
   clear hsb; have hO := HVR.out
   refine (cut_fresh _ fp _ _ _ Hfp.out (by rw [HFPL.out]; exact HNO.out) 0 y0 HX0.out HY0.out HYP.out).mono ?_
   rintro e W24 ⟨vcu, rfl, hcu, hB⟩
   clear cHVfp0 cHVfp1; replace HB := cb hB HB; replace HV := HV.go hB; replace HT := HT.go hB; replace HA := HA.go hB; replace HR := HR.go hB; replace Hlo := Hlo.go hB; replace HVlo := HVlo.go hB; replace Hse := Hse.go hB; replace HVse := HVse.go hB; replace Hfl := Hfl.go hB; replace HVfl := HVfl.go hB; replace HVR := HVR.go hB; replace HKW := cb hB HKW; replace Hvpf := Hvpf.go hB; replace Hod := Hod.go hB
   replace HVod := HVod.go hB; replace Hfp := Hfp.go hB; replace HVfp := HVfp.go hB; replace Hvps := Hvps.go hB; replace Hvpl := Hvpl.go hB
   rw [List.drop_zero] at hcu
   have Hcu := Lib.hid (show IsBitsX W24 (fun b => u17.ownBlock ≠ some b) _ _ from hcu.keep (Kept.refl _ _) (fun b _ (h : W23.heap.size + 2 ≤ b) => hO.free (.inl (by omega))))
   clear hcu hO; clear hB; have cHVfp0 := HVfp.out.2.1; have cHVfp1 := HVfp.out.2.2.1
   go_wp2_with fail
   refine (vbits_ok _ (fp.take y0) _ Hcu.out (by rw [List.length_take]; have := HYN.out; omega)).mono ?_
   rintro e W25 ⟨u1, rfl, hu, hB⟩
   clear cHVfp0 cHVfp1; replace HB := cb hB HB; replace HV := HV.go hB; replace HT := HT.go hB; replace HA := HA.go hB; replace HR := HR.go hB; replace Hlo := Hlo.go hB; replace HVlo := HVlo.go hB; replace Hse := Hse.go hB; replace HVse := HVse.go hB; replace Hfl := Hfl.go hB; replace HVfl := HVfl.go hB; replace HVR := HVR.go hB; replace HKW := cb hB HKW; replace Hvpf := Hvpf.go hB; replace Hod := Hod.go hB
   replace HVod := HVod.go hB; replace Hfp := Hfp.go hB; replace HVfp := HVfp.go hB; replace Hvps := Hvps.go hB; replace Hvpl := Hvpl.go hB; replace Hcu := Hcu.go hB; have HU1 := Lib.hid hu
   have HO1 := Lib.hid (show u1.oneCell' = true from hu.one)
   clear hu; clear hB; have cHVfp0 := HVfp.out.2.1; have cHVfp1 := HVfp.out.2.2.1
   go_wp2_with fail
   have hO := HVR.out
   refine (make_fresh _ sb m0 HM0.out _).mono ?_
   rintro e W26 ⟨vmk2, rfl, hmk2, hB⟩
   clear cHVfp0 cHVfp1; replace HB := cb hB HB; replace HV := HV.go hB; replace HT := HT.go hB; replace HA := HA.go hB; replace HR := HR.go hB; replace Hlo := Hlo.go hB; replace HVlo := HVlo.go hB; replace Hse := Hse.go hB; replace HVse := HVse.go hB; replace Hfl := Hfl.go hB; replace HVfl := HVfl.go hB; replace HVR := HVR.go hB; replace HKW := cb hB HKW; replace Hvpf := Hvpf.go hB; replace Hod := Hod.go hB
   replace HVod := HVod.go hB; replace Hfp := Hfp.go hB; replace HVfp := HVfp.go hB; replace Hvps := Hvps.go hB; replace Hvpl := Hvpl.go hB; replace Hcu := Hcu.go hB; replace HU1 := HU1.go hB
   have Hmk := Lib.hid (show IsBitsX W26 (fun b => u17.ownBlock ≠ some b) _ _ from hmk2.keep (Kept.refl _ _) (fun b _ (h : W25.heap.size ≤ b) => hO.free (.inl h)))
   clear hmk2 hO; clear hB; have cHVfp0 := HVfp.out.2.1; have cHVfp1 := HVfp.out.2.2.1
   go_wp2_with fail
   refine (vbits_ok _ (List.replicate m0 sb) _ Hmk.out (by rw [List.length_replicate]; exact HYN.out.2)).mono ?_
   rintro e W27 ⟨u2, rfl, hu, hB⟩
   clear cHVfp0 cHVfp1; replace HB := cb hB HB; replace HV := HV.go hB; replace HT := HT.go hB; replace HA := HA.go hB; replace HR := HR.go hB; replace Hlo := Hlo.go hB; replace HVlo := HVlo.go hB; replace Hse := Hse.go hB; replace HVse := HVse.go hB; replace Hfl := Hfl.go hB; replace HVfl := HVfl.go hB; replace HVR := HVR.go hB; replace HKW := cb hB HKW; replace Hvpf := Hvpf.go hB; replace Hod := Hod.go hB
   replace HVod := HVod.go hB; replace Hfp := Hfp.go hB; replace HVfp := HVfp.go hB; replace Hvps := Hvps.go hB; replace Hvpl := Hvpl.go hB; replace Hcu := Hcu.go hB; replace HU1 := HU1.go hB; replace Hmk := Hmk.go hB; have HU2 := Lib.hid hu
   have HO2 := Lib.hid (show u2.oneCell' = true from hu.one)
   clear hu; clear hB
   have HQM := Lib.hid (show 2 * o + 2 ≤ 40000 by have := HOM.out; have := HLT.out; omega)
   have HM1 : Hid (2 * o + 2 ≤ maxLen) := Lib.hid (by have := HQM.out; unfold maxLen; omega)
   have HSW := Lib.hid (show bk ≤ W27.heap.size by have := HKW.out.size; have := HBK.out; omega)
   have hcu := cell_two_newS W27 u1 u2 25
   have cHVfp0 := HVfp.out.2.1; have cHVfp1 := HVfp.out.2.2.1
   go_wp2_with (at_builtin; refine wpList_append_blk _ rfl _ _ 124 rfl bk 25 i0 (.agg #[.nilIface]) 1 16 Tryz.underlying124 HI0.out.1 HI0.out.2.1 HI0.out.2.2.1 HI0.out.2.2.2 rfl (by decide) _ _ _ rfl (HVR.out.1.alloc _) ⟨W27.heap.size, 0, none⟩ 2 2 [u1, u2] rfl rfl hcu ?c2 HM1.out ?c4 ?c5 ?_)
   case c2 =>
    intro x hx
    simp at hx
    rcases hx with rfl | rfl
    ·exact HO1.out
    ·exact HO2.out
   case c4 => have := HQM.out; omega
   case c5 => have := HSW.out; simp <;> omega
   intro v' w3 hown' hgrow hblk
   clear hcu; clear cHVfp0 cHVfp1
   obtain ⟨wa, hwa⟩ : ∃ wa, W27.alloc (.cells #[u1, u2] 25) = wa := ⟨_, rfl⟩
   have hBa : Below W27.heap.size W27 wa := by rw [← hwa]; exact below_new _ _
   rw [hwa] at hgrow
   have hblk2 : ∀ j, v'.ownBlock = some j → u17.ownBlock = some j ∨ wa.heap.size ≤ j := fun j hj => by rw [← hwa]; simpa using hblk j hj
   have HVR4 := Lib.hid (show VR bk (2 * o + 2) v' (Z ++ [(u1, .bits (fp.take y0)), (u2, .bits (List.replicate m0 sb))]) w3 from (HVR.out.below hBa).snoc (Y := [(u1, .bits (fp.take y0)), (u2, .bits (List.replicate m0 sb))]) (fun p hp => by
    simp only [List.mem_cons, List.not_mem_nil, or_false] at hp
    rcases hp with rfl | rfl
    ·exact HU1.out.grow hBa
    ·exact HU2.out.grow hBa) (by simpa using hown') hgrow hblk2)
   have HKW4 := Lib.hid (show Below W14.heap.size W14 w3 from (HKW.out.trans (hBa.mono HKW.out.size)).grown hgrow (by have h1 := HKW.out.size; have h2 := hBa.size; omega) (fun j hj => by rw [HBK.out]; exact (World.ownsRow.lt HVR.out.1 j hj).1))
   have HAB4 := Lib.hid (show AllBits (Z ++ [(u1, VV.bits (fp.take y0)), (u2, VV.bits (List.replicate m0 sb))]) from fun p hp => by
    rcases List.mem_append.1 hp with h | h
    ·exact HAB.out p h
    ·simp only [List.mem_cons, List.not_mem_nil, or_false] at h
     rcases h with rfl | rfl <;> rfl)
   have HFF4 := Lib.hid (show ((Z ++ [(u1, VV.bits (fp.take y0)), (u2, VV.bits (List.replicate m0 sb))]).flatMap fun p => p.2.packed) = (upB t l outer n 1).take ((o + 1) * n) by
    rw [List.flatMap_append, HFF.out, ← upB_row t l HLT.out HN.out, HRG.out, HRU.out]
    simp [VV.packed])
   clear hown' hgrow hblk hblk2 hwa hBa
   have hom := HOM.out
   go_wp2
   go_roundw
   case rel => exact ⟨o + 1, _, by have := HLT.out; omega, by go_num, by rw [Nat.mul_add]; exact HVR4.out, HAB4.out, HFF4.out, HKW4.out⟩
   case measure => simp [intOf]; have := HLT.out; omega
  ·have hoo : o = outer := by omega
   have HFA := Lib.hid (show (Z.flatMap fun p => p.2.packed) = upB t l outer n 1 by
    rw [HFF.out, hoo]; exact List.take_of_length_le (by rw [upB_len, Nat.mul_one]; exact Nat.le_refl _))
   have HZL := Lib.hid (show Z.length ≤ 1000000 by rw [HVR.out.ends.2, hoo]; have := HOM.out; omega)
   have HPO := Lib.hid (show 0 < (Z.flatMap fun p => p.2.packed).length ∧ (Z.flatMap fun p => p.2.packed).length ≤ 1048576 by
    rw [HFA.out, upB_len, Nat.mul_one, ← HLL.out]; exact ⟨HPOS.out, HL.out⟩)
   have HZS := Lib.hid HVR.out.ends.1
   obtain ⟨a13, c13, rfl⟩ := owned_len HVR.out.1
   clear hoo; have cHR0 := HR.out.2.1; have zHR0 := HR.out.2.2 0
   go_wp2_with fail
   refine (scjoined_calls _ Z bk _ HZS.out HZL.out HAB.out HPO.out.1 HPO.out.2 HT.out).mono ?_
   rintro e W15 ⟨uq, rfl, huq, hB⟩
   clear cHR0 zHR0; replace HB := cb hB HB; replace HV := HV.go hB; replace HT := HT.go hB; replace HA := HA.go hB; replace HR := HR.go hB; replace Hlo := Hlo.go hB; replace HVlo := HVlo.go hB; replace Hse := Hse.go hB; replace HVse := HVse.go hB; replace Hfl := Hfl.go hB; replace HVfl := HVfl.go hB; replace HKW := cb hB HKW; replace HZS := HZS.go hB
   rw [HFA.out] at huq
   have HQ := Lib.hid huq; have hsq := huq.store; clear huq; clear hB; have cHR0 := HR.out.2.1; have zHR0 := HR.out.2.2 0
   go_wp2_with fail
   refine bodyPost_ret (v := .agg #[uq]) (by simp [results, Tryz.results68, go_sem, cHR0]) rfl ⟨uq, rfl, ?_, HB.out.setCell (Nat.le_succ _) _⟩
   exact HQ.out.bits_set HR.out.2.1 (.inl rfl) _
end Go.Proofs.YtbacchbcanlciaaGreatDoor

/- Layer 14, walked: sized, ofFlags of package scan. -/
namespace Go.Proofs.YtbacchbcanlciaaGreatDoor
set_option maxRecDepth 100000
open Go.RowKit Fl
set_option linter.unusedVariables false

set_option maxHeartbeats 4000000 in
theorem scsized_calls (outer n inner : Nat) (w : World) (h : outer * n * inner ≤ 1048576) (hn : 0 < n) (hnm : n ≤ 1048576) (hom : outer ≤ 1048576) (him : inner ≤ 1048576) :
  Calls Tryz.prog 30 #[.int .i64 ((outer * n * inner : Nat) : Int), .int .i64 (outer : Int), .int .i64 (n : Int), .int .i64 (inner : Int)] w fun e w' => e = .returned (.bool true) ∧ w = w' := by
 by_cases h0 : outer = 0
 ·subst h0
  have e : 0 * n * inner = 0 := by rw [Nat.zero_mul, Nat.zero_mul]
  rw [e]
  go_enter Tryz.func30, Tryz.ntmps30
  go_wp2
  go_ret
  exact ⟨rfl, rfl⟩
 ·obtain ⟨C, hC⟩ : ∃ C, outer * n * inner = C := ⟨_, rfl⟩
  obtain ⟨D, hD⟩ : ∃ D, n * inner = D := ⟨_, rfl⟩
  have hCD : C = outer * D := by rw [← hC, ← hD, Nat.mul_assoc]
  have hDC : D ≤ C := by rw [hCD]; exact Nat.le_mul_of_pos_left _ (by omega)
  rw [hC] at h ⊢
  have o1 : ((outer : Int) == 0) = false := by rw [beq_eq_false_iff_ne]; omega
  have o2 : ((outer : Int) = 0) = False := eq_false (by omega)
  have o3 : (outer = 0) = False := eq_false h0
  have n3 : (n = 0) = False := eq_false (by omega)
  have n2 : ((n : Int) = 0) = False := eq_false (by omega)
  have d1 : (C : Int) / (outer : Int) = (D : Int) := by rw [hCD, Int.natCast_mul]; exact Int.mul_ediv_cancel_left _ (by omega)
  have d2 : (D : Int) / (n : Int) = (inner : Int) := by rw [← hD, Int.natCast_mul]; exact Int.mul_ediv_cancel_left _ (by omega)
  have m1 : (C : Int) % (outer : Int) = 0 := by rw [hCD, Int.natCast_mul]; exact Int.mul_emod_right _ _
  have m2 : (D : Int) % (n : Int) = 0 := by rw [← hD, Int.natCast_mul]; exact Int.mul_emod_right _ _
  have t1 : (C : Int).tdiv (outer : Int) = (D : Int) := by rw [Int.tdiv_eq_ediv_of_nonneg (by omega)]; exact d1
  have t2 : (D : Int).tdiv (n : Int) = (inner : Int) := by rw [Int.tdiv_eq_ediv_of_nonneg (by omega)]; exact d2
  have r1 : (C : Int).tmod (outer : Int) = 0 := by rw [Int.tmod_eq_emod_of_nonneg (by omega)]; exact m1
  have r2 : (D : Int).tmod (n : Int) = 0 := by rw [Int.tmod_eq_emod_of_nonneg (by omega)]; exact m2
  have w1 : IntKind.i64.wrap (D : Int) = (D : Int) := IntWalk.i64_in _ (by omega)
  have w2 : IntKind.i64.wrap (inner : Int) = (inner : Int) := IntWalk.i64_in _ (by omega)
  clear hC hD hCD hDC h0
  go_enter Tryz.func30, Tryz.ntmps30
  go_wp2
  go_ret
  exact ⟨rfl, rfl⟩

/-- What ofFlags tells: the answer, or nothing. -/
def TriedS (f : Int) (l : List Bool) (outer n inner : Nat) (w : World) (e : Ending) (w' : World) : Prop :=
 ∃ u r, e = .returned (.tuple #[.agg #[u], .bool r]) ∧ ((r = true ∧ ∃ t, Closed f t ∧ IsV w' (fun _ => True) u (.bits (upB t l outer n inner))) ∨ (r = false ∧ u = .nilIface)) ∧ Below w.heap.size w w'
set_option maxHeartbeats 8000000 in
theorem scflags_calls (f : Int) (v : Value) (l : List Bool) (outer n inner : Nat) (w : World) (hv : IsBits w v l) (hl : l.length ≤ 1048576) (hll : l.length = outer * n * inner) (hpos : 0 < l.length) (hno : n ≤ 1048576) (him : inner ≤ 1048576) (hT : TabAt w) :
  Calls Tryz.prog 34 #[.int .i64 f, v, .int .i64 (outer : Int), .int .i64 (n : Int), .int .i64 (inner : Int)] w (TriedS f l outer n inner w) := by
 have HL := Lib.hid hl; have HLL := Lib.hid hll; have HPOS := Lib.hid hpos; have HNO := Lib.hid hno; have HIM := Lib.hid him
 obtain ⟨m, hm⟩ : ∃ m, l.length = m := ⟨_, rfl⟩
 obtain ⟨ao, cap, rfl, hcx⟩ := hv.opened
 have HV := Lib.hid hv
 rw [hm] at HV ⊢
 have HM := Lib.hid hm
 obtain ⟨L, hL⟩ : ∃ L, (m + 63) / 64 = L := ⟨_, rfl⟩
 rw [hL] at HV ⊢
 obtain ⟨W1, hW1⟩ : ∃ W1, W1 = (w.alloc (.cells #[.int .i64 m, .slice ao L cap] 63)).alloc (.cells #[.nilIface] 25) := ⟨_, rfl⟩
 have HA := Lib.hid (show At2 W1 w.heap.size (.int .i64 m) (.slice ao L cap) by rw [hW1]; exact (At2.new _ _ _ _).alloc _)
 have HR := Lib.hid (show At1 W1 (w.heap.size + 1) .nilIface by
  rw [hW1]; have := At1.new (w.alloc (.cells #[.int .i64 m, .slice ao L cap] 63)) .nilIface 25; simpa using this)
 have HB := Lib.hid (show Below w.heap.size w W1 by rw [hW1]; exact ((Below.refl _ _).alloc (Nat.le_refl _) _).alloc (by simp) _)
 replace HV := Lib.hid (HV.out.keep (keep_below HB.out))
 have HTB := Lib.hid (show TabAt W1 from fun j hj => keep_below HB.out _ _ (hT j hj))
 have hfold := hW1.symm
 clear hcx hL hv hl hll hpos hno him hT hW1 hm; have cHA0 := HA.out.2.1; have cHA1 := HA.out.2.2.1; have cHR0 := HR.out.2.1; have zHR0 := HR.out.2.2 0
 go_enter Tryz.func34, Tryz.ntmps34
 go_wp2_with fail
 clear hfold
 refine (sctable_calls f _ HTB.out).mono ?_
 rintro e W11 ⟨t, c, rfl, hc, hB⟩
 clear cHA0 cHA1 cHR0 zHR0; replace HB := cb hB HB; replace HV := HV.go hB; replace HTB := HTB.go hB; replace HA := HA.go hB; replace HR := HR.go hB; have HC := Lib.hid hc; clear hc; clear hB; have hnm := HNO.out; have him := HIM.out
 cases c
 ·have cHA0 := HA.out.2.1; have cHA1 := HA.out.2.2.1; have cHR0 := HR.out.2.1; have zHR0 := HR.out.2.2 0
  go_wp2_with fail
  all_goals refine bodyPost_ret (v := .tuple #[.agg #[.nilIface], .bool false]) (by simp [results, Tryz.results34, go_sem, cHR0]) rfl ⟨.nilIface, false, rfl, .inr ⟨rfl, rfl⟩, HB.out.setCell (by show w.heap.size ≤ w.heap.size + 1; omega) _⟩
 ·have HCT := Lib.hid (HC.out rfl)
  by_cases h64 : 64 ≤ inner
  ·have H64 := Lib.hid h64; have cHA0 := HA.out.2.1; have cHA1 := HA.out.2.2.1; have cHR0 := HR.out.2.1; have zHR0 := HR.out.2.2 0
   go_wp2_with fail
   refine (sccells_calls t _ l outer n inner _ HV.out HCT.out.1 HL.out HLL.out HPOS.out H64.out HTB.out).mono ?_
   rintro e W12 ⟨uq, rfl, huq, hB⟩
   clear cHA0 cHA1 cHR0 zHR0; replace HB := cb hB HB; replace HV := HV.go hB; replace HTB := HTB.go hB; replace HA := HA.go hB; replace HR := HR.go hB; have HQ := Lib.hid huq; have hsq := huq.store; clear huq; clear hB; have cHA0 := HA.out.2.1; have cHA1 := HA.out.2.2.1; have cHR0 := HR.out.2.1; have zHR0 := HR.out.2.2 0
   go_wp2_with fail
   refine bodyPost_ret (v := .tuple #[.agg #[uq], .bool true]) (by simp [results, Tryz.results34, go_sem, cHR0]) rfl ⟨uq, true, rfl, .inl ⟨rfl, t, HCT.out.2, ?_⟩, HB.out.setCell (by show w.heap.size ≤ w.heap.size + 1; omega) _⟩
   exact HQ.out.bits_set HR.out.2.1 (.inl rfl) _
  by_cases h1 : inner = 1
  ·by_cases hn64 : 64 ≤ n
   ·subst h1
    have HN64 := Lib.hid hn64
    have HL1 := Lib.hid (show l.length = outer * n by rw [HLL.out, Nat.mul_one])
    have cHA0 := HA.out.2.1; have cHA1 := HA.out.2.2.1; have cHR0 := HR.out.2.1; have zHR0 := HR.out.2.2 0
    go_wp2_with fail
    refine (scrows_calls t _ l outer n _ HV.out HCT.out.1 HL.out HL1.out HPOS.out HN64.out HTB.out).mono ?_
    rintro e W12 ⟨uq, rfl, huq, hB⟩
    clear cHA0 cHA1 cHR0 zHR0; replace HB := cb hB HB; replace HV := HV.go hB; replace HTB := HTB.go hB; replace HA := HA.go hB; replace HR := HR.go hB; have HQ := Lib.hid huq; have hsq := huq.store; clear huq; clear hB; have cHA0 := HA.out.2.1; have cHA1 := HA.out.2.2.1; have cHR0 := HR.out.2.1; have zHR0 := HR.out.2.2 0
    go_wp2_with fail
    refine bodyPost_ret (v := .tuple #[.agg #[uq], .bool true]) (by simp [results, Tryz.results34, go_sem, cHR0]) rfl ⟨uq, true, rfl, .inl ⟨rfl, t, HCT.out.2, ?_⟩, HB.out.setCell (by show w.heap.size ≤ w.heap.size + 1; omega) _⟩
    exact HQ.out.bits_set HR.out.2.1 (.inl rfl) _
   ·have hb1 : ((inner : Int) == 1) = true := by rw [h1]; rfl
    clear h1; have cHA0 := HA.out.2.1; have cHA1 := HA.out.2.2.1; have cHR0 := HR.out.2.1; have zHR0 := HR.out.2.2 0
    go_wp2_with fail
    all_goals refine bodyPost_ret (v := .tuple #[.agg #[.nilIface], .bool false]) (by simp [results, Tryz.results34, go_sem, cHR0]) rfl ⟨.nilIface, false, rfl, .inr ⟨rfl, rfl⟩, HB.out.setCell (by show w.heap.size ≤ w.heap.size + 1; omega) _⟩
  ·have hb1 : ((inner : Int) == 1) = false := by rw [beq_eq_false_iff_ne]; omega
   clear h1; have cHA0 := HA.out.2.1; have cHA1 := HA.out.2.2.1; have cHR0 := HR.out.2.1; have zHR0 := HR.out.2.2 0
   go_wp2_with fail
   all_goals refine bodyPost_ret (v := .tuple #[.agg #[.nilIface], .bool false]) (by simp [results, Tryz.results34, go_sem, cHR0]) rfl ⟨.nilIface, false, rfl, .inr ⟨rfl, rfl⟩, HB.out.setCell (by show w.heap.size ≤ w.heap.size + 1; omega) _⟩
end Go.Proofs.YtbacchbcanlciaaGreatDoor

/- Layer 14, walked: ofNumbers of package scan. -/
namespace Go.Proofs.YtbacchbcanlciaaGreatDoor
set_option maxRecDepth 100000
open Go.RowKit Fl
set_option linter.unusedVariables false

set_option maxHeartbeats 16000000 in
theorem scnumbers_calls {ok : Nat → Prop} (f : Int) (v : Value) (l : List Nat) (outer n inner : Nat) (w : World) (hfk : fknown f = true) (hv : Slc w ok v l.length (f64s l)) (hl : l.length = outer * n * inner) (hlm : l.length ≤ 1048576) (hN : ∀ x ∈ l, Num x) (hn : 0 < n) (hnm : n ≤ 1048576) (him : inner ≤ 1048576) (hom : outer ≤ 1048576) (hT : TabAt w) :
  Calls Tryz.prog 35 #[.int .i64 f, v, .int .i64 (outer : Int), .int .i64 (n : Int), .int .i64 (inner : Int)] w fun e w' => ∃ u, e = .returned (.tuple #[.agg #[u], .int .i64 (errG (rowN f) (upRows l outer n inner))]) ∧ IsV w' (fun b => w.heap.size ≤ b) u (if errG (rowN f) (upRows l outer n inner) = 0 then sqL (outG (rowN f) (upRows l outer n inner)) else .none) ∧ Below w.heap.size w w' := by
 obtain ⟨P, hP⟩ : ∃ P, upRows l outer n inner = P := ⟨_, rfl⟩
 obtain ⟨E, hEE⟩ : ∃ E : Int, E = errG (rowN f) P := ⟨_, rfl⟩
 obtain ⟨R, hRR⟩ : ∃ R : VV, R = (if errG (rowN f) P = 0 then sqL (outG (rowN f) P) else .none) := ⟨_, rfl⟩
 rw [hP, ← hRR, ← hEE]
 have HFK := Lib.hid hfk; have HPE := Lib.hid hP; have HRR := Lib.hid hRR; have HEE := Lib.hid hEE; have HV := Lib.hid hv
 have HPN := Lib.hid (show ∀ r ∈ P, Num (rowN f r).1 by rw [← hP]; exact upRows_num hN)
 have HLL := Lib.hid (And.intro hl hlm)
 have HNM := Lib.hid hN; have HIM := Lib.hid him; have HNN := Lib.hid hnm; have HN0 := Lib.hid hn; have HOM := Lib.hid hom
 obtain ⟨N, hNe⟩ : ∃ N, l.length = N := ⟨_, rfl⟩
 have HNE := Lib.hid hNe
 have HNL := Lib.hid (show N ≤ 1048576 by omega)
 obtain ⟨ao, cap, rfl, _⟩ := hv.opened
 rw [hNe] at HV ⊢
 have hst := run_store_float
 obtain ⟨W1, hW1⟩ : ∃ W1, W1 = w.alloc (.cells #[.nilIface] 25) := ⟨_, rfl⟩
 have HB := Lib.hid (show Below w.heap.size w W1 by rw [hW1]; exact below_new _ _)
 have HR := Lib.hid (show At1 W1 w.heap.size .nilIface by rw [hW1]; exact At1.new w _ _)
 have HT := Lib.hid (show TabAt W1 from fun j hj => keep_below HB.out _ _ (hT j hj))
 have HWS := Lib.hid (show W1.heap.size = w.heap.size + 1 by rw [hW1]; simp)
 replace HV := Lib.hid (HV.out.below HB.out)
 obtain ⟨bk, hbk⟩ : ∃ bk, W1.heap.size = bk := ⟨_, rfl⟩
 have HBK := Lib.hid hbk
 have hmk := run_mkF1 N (by omega) W1
 obtain ⟨W0, hW0⟩ : ∃ W0, W0 = W1.alloc (.cells (zerosV (.float .f64 0) N) 42) := ⟨_, rfl⟩
 rw [hbk] at hmk
 have HO0 := Lib.hid (show W0.ownsRow bk 42 1 (.slice (some ⟨bk, 0, none⟩) N N) N (f64s (fillU f l outer n inner 0 0 0)) by
  rw [hW0, fillU_zero, ← hl, hNe]; unfold f64s; rw [List.map_replicate, ← hbk]; exact own_make1 _ _ _ (by omega) _ _ (Nat.le_refl _))
 have HK0 := Lib.hid (show Below W1.heap.size W1 W0 by rw [hW0]; exact below_new _ _)
 have hfold := hW1.symm
 have hfold2 := hW0.symm
 clear hW1 hT hv hl hlm hN hn hnm him hom hP hEE hRR hbk hfk hW0 hNe; have cHR0 := HR.out.2.1; have zHR0 := HR.out.2.2 0
 go_enter Tryz.func35, Tryz.ntmps35
 go_wp2_with fail
 clear hfold hfold2 hmk cHR0 zHR0
 go_loopw [26] (fun i wr => ∃ o : Nat, o ≤ outer ∧ i = .int .i64 o ∧ okU f l outer n inner o 0 0 ∧ wr.ownsRow bk 42 1 (.slice (some ⟨bk, 0, none⟩) N N) N (f64s (fillU f l outer n inner o 0 0)) ∧ Below W1.heap.size W1 wr) (fun i _ => outer - (intOf i).toNat)
 case atStart => exact ⟨0, by omega, rfl, okU_zero _ _ _ _ _, HO0.out, HK0.out⟩
 case round =>
  obtain ⟨o, ho, rfl, hok, hown, hB⟩ := hrel
  have HO := Lib.hid hown; have HK := Lib.hid hB; have HOK := Lib.hid hok; clear hown hB hok
  by_cases hlo : o < outer
  ·have HLO := Lib.hid hlo
   go_wp2_with fail
   go_loopw [30] (fun i wr => ∃ k : Nat, k ≤ inner ∧ i = .int .i64 k ∧ okU f l outer n inner o k 0 ∧ wr.ownsRow bk 42 1 (.slice (some ⟨bk, 0, none⟩) N N) N (f64s (fillU f l outer n inner o k 0)) ∧ Below W1.heap.size W1 wr) (fun i _ => inner - (intOf i).toNat)
   case atStart => exact ⟨0, by omega, rfl, HOK.out, HO.out, HK.out⟩
   case round =>
    obtain ⟨k, hk, rfl, hok, hown, hB⟩ := hrel
    have HO := Lib.hid hown; have HK := Lib.hid hB; have HOK := Lib.hid hok; clear hown hB hok
    by_cases hlk : k < inner
    ·have HLK := Lib.hid hlk
     have HVW := Lib.hid (HV.out.below HK.out)
     have HRW := Lib.hid (HR.out.below HK.out)
     have hlm := HNL.out; have hn0 := HN0.out
     obtain ⟨r, hr⟩ : ∃ r, lineG 0 l n inner o k = r := ⟨_, rfl⟩
     have HRE := Lib.hid hr
     have HRN := Lib.hid (show r.length = n by rw [← hr, lineG_len])
     have HRM := Lib.hid (show ∀ x ∈ r, Num x by rw [← hr]; exact lineG_num HNM.out)
     obtain ⟨X, hX⟩ : ∃ X, o * n = X := ⟨_, rfl⟩
     obtain ⟨Y, hY⟩ : ∃ Y, X * inner = Y := ⟨_, rfl⟩
     obtain ⟨Z, hZ⟩ : ∃ Z, Y + k = Z := ⟨_, rfl⟩
     have hpl := place_lt (o := o) (i := n - 1) (k := k) HLO.out (show n - 1 < n by omega) hlk
     rw [← HLL.out.1, HNE.out, hX, Nat.add_mul, hY] at hpl
     have hXm : X ≤ Y := by rw [← hY]; exact Nat.le_mul_of_pos_right _ (by omega)
     have hZl : Z < N := by omega
     have HIN := Lib.hid (show (n - 1) * inner < (l.drop Z).length by rw [List.length_drop, HNE.out]; omega)
     have HRD := Lib.hid (show ∀ i, i < n → r.getD i 0 = (l.drop Z).getD (i * inner) 0 from fun i hi => by
      rw [← hr, lineG_get 0 l n inner o k hi, hX, Nat.add_mul, hY]
      simp only [List.getD_eq_getElem?_getD, List.getElem?_drop]
      rw [show Y + i * inner + k = Z + i * inner by omega])
     have HZP := Lib.hid (show ∀ j, (o * n + j) * inner + k = Z + j * inner from fun j => by rw [hX, Nat.add_mul, hY]; omega)
     obtain ⟨E1, hE1⟩ : ∃ E1, errG (rowN f) (upsR r) = E1 := ⟨_, rfl⟩
     obtain ⟨b, off, cap', x9, e9, hx9, hc9⟩ := Slc.at_map (Value.float .f64) (l := l) (by rw [HNE.out]; exact HVW.out) Z (by rw [HNE.out]; exact hZl)
     rw [HNE.out] at e9
     cases e9
     have hcap := HVW.out.2
     obtain ⟨ao8, cap8, e8, hcap1, hcap2⟩ := hcap
     cases e8
     have hcz : (cap = Z) = False := eq_false (by omega)
     have HVD := Lib.hid (show Slc wr ok (.slice (some ⟨b, off + Z, none⟩) (N - Z) (cap - Z)) (l.drop Z).length (f64s (l.drop Z)) by
      have h9 := Slc.dropm (Value.float .f64) (s := l) (b := b) (off := off) (cap := cap) (by rw [HNE.out]; exact HVW.out) Z (by rw [HNE.out]; omega)
      rw [HNE.out] at h9; exact h9)
     have HDL := Lib.hid (show (l.drop Z).length ≤ 1048576 by rw [List.length_drop, HNE.out]; omega)
     have q1 : IntKind.i64.wrap ((o : Int) * (n : Int)) = (X : Int) := by rw [← Int.natCast_mul, hX]; exact IntWalk.i64_in _ (by omega)
     have q2 : IntKind.i64.wrap ((X : Int) * (inner : Int)) = (Y : Int) := by rw [← Int.natCast_mul, hY]; exact IntWalk.i64_in _ (by omega)
     have q3 : IntKind.i64.wrap ((Y : Int) + (k : Int)) = (Z : Int) := by rw [← Int.natCast_add, hZ]; exact IntWalk.i64_in _ (by omega)
     have HE1 := Lib.hid hE1; clear hr hX hY hZ hpl hXm hx9 hc9 hE1
     go_wp2_with fail
     refine (sctak_calls _ (l.drop Z) r n inner _ HVD.out HN0.out HNN.out HIM.out HDL.out HIN.out HRN.out HRD.out).mono ?_
     rintro e W7 ⟨v7, rfl, hv7, hB7⟩
     have HO7 := Lib.hid (owns_below HO.out hB7)
     have HK7 := Lib.hid (HK.out.trans (hB7.mono HK.out.size))
     have HV7 := Lib.hid (show Slc W7 (fun b => wr.heap.size ≤ b) v7 r.length (f64s r) by rw [HRN.out]; exact hv7)
     clear hB7 hv7
     go_wp2_with fail
     refine (scalong_calls f v7 r _ HV7.out (by rw [HRN.out]; exact HN0.out) (by rw [HRN.out]; exact HNN.out) HRM.out).mono ?_
     rintro e W8 ⟨v8, rfl, hv8, hB8⟩
     rw [HE1.out]
     rw [HE1.out, HRN.out] at hv8
     have HS8 := Lib.hid (show W1.heap.size ≤ W7.heap.size from HK7.out.size)
     have HO8 := Lib.hid (owns_below HO7.out hB8)
     have HK8 := Lib.hid (HK7.out.trans (hB8.mono HK7.out.size))
     have HSZ7 := Lib.hid (show bk < W7.heap.size from (own_lt HO7.out).1)
     have HV8 := Lib.hid hv8
     have HB8 := Lib.hid (HB.out.trans (HK8.out.mono HB.out.size))
     have HRW8 := Lib.hid (HR.out.below HK8.out)
     clear hB8 hv8; have cHR0 := HRW8.out.2.1; have zHR0 := HRW8.out.2.2 0
     by_cases h0 : E1 = 0
     ·obtain ⟨q, hq⟩ : ∃ q, outG (rowN f) (upsR r) = q := ⟨_, rfl⟩
      have HQL := Lib.hid (show q.length = n by rw [← hq, outG_len, upsR_len, HRN.out])
      have HQ := Lib.hid (show Slc W8 (fun b => b ≠ bk) v8 n (f64s q) by
       rw [← hq]
       exact (HV8.out h0).keep (Kept.refl _ _) (fun b _ (h : W7.heap.size ≤ b) => by have := HSZ7.out; omega))
      have HQG := Lib.hid (show ∀ j, j < n → rowN f (r.take (j + 1)) = (q.getD j 0, 0) from fun j hj => by
       have g1 := upsR_get (r := r) (k := j) (by rw [HRN.out]; exact hj)
       have g2 : (rowN f (r.take (j + 1))).2 = 0 := errG_zero (HE1.out.trans h0) _ (List.mem_of_getElem? g1)
       refine Prod.ext ?_ g2
       rw [← hq]; unfold outG
       rw [List.getD_eq_getElem?_getD, List.getElem?_map, g1]; rfl)
      obtain ⟨a8, c8, rfl, _⟩ := HQ.out.opened
      subst h0
      clear hq
      go_wp2_with fail
      clear cHR0 zHR0
      go_loopw [57] (fun i wr => ∃ j : Nat, j ≤ n ∧ i = .int .i64 j ∧ okU f l outer n inner o k j ∧ wr.ownsRow bk 42 1 (.slice (some ⟨bk, 0, none⟩) N N) N (f64s (fillU f l outer n inner o k j)) ∧ Below W1.heap.size W1 wr ∧ Slc wr (fun b => b ≠ bk) (.slice a8 n c8) n (f64s q)) (fun i _ => n - (intOf i).toNat)
      case atStart => exact ⟨0, by omega, rfl, HOK.out, HO8.out, HK8.out, HQ.out⟩
      case round =>
       obtain ⟨j, hj, rfl, hok, hown, hB, hrow⟩ := hrel
       have HO := Lib.hid hown; have HK := Lib.hid hB; have HOK := Lib.hid hok; have HQ := Lib.hid hrow; clear hown hB hok hrow; have hnm := HNN.out; have him := HIM.out
       by_cases hlj : j < n
       ·have HLJ := Lib.hid hlj
        obtain ⟨M, hM⟩ : ∃ M, j * inner = M := ⟨_, rfl⟩
        obtain ⟨D, hD⟩ : ∃ D, Z + M = D := ⟨_, rfl⟩
        have hDe : (o * n + j) * inner + k = D := by rw [HZP.out, hM, hD]
        have HDE := Lib.hid hDe
        have hpl := place_lt (o := o) (i := j) (k := k) HLO.out hlj HLK.out
        rw [hDe, ← HLL.out.1, HNE.out] at hpl
        have hnl := HNL.out
        have q4 : IntKind.i64.wrap ((j : Int) * (inner : Int)) = (M : Int) := by rw [← Int.natCast_mul, hM]; exact IntWalk.i64_in _ (by omega)
        have q5 : IntKind.i64.wrap ((Z : Int) + (M : Int)) = (D : Int) := by rw [← Int.natCast_add, hD]; exact IntWalk.i64_in _ (by omega)
        obtain ⟨b2, off2, cp2, y, e2, hy, hcy⟩ := Slc.at_map (Value.float .f64) (l := q) (by rw [HQL.out]; exact HQ.out) j (by rw [HQL.out]; exact hlj)
        rw [HQL.out] at e2
        obtain ⟨rfl, rfl⟩ : a8 = some ⟨b2, off2, none⟩ ∧ c8 = cp2 := by cases e2; exact ⟨rfl, rfl⟩
        have hyg : q.getD j 0 = y := by rw [List.getD_eq_getElem?_getD, hy]; rfl
        have HRY := Lib.hid (show rowN f ((lineG 0 l n inner o k).take (j + 1)) = (y, 0) by rw [HRE.out, HQG.out j hlj, hyg])
        have HOK2 := Lib.hid (okU_step HLK.out HLJ.out HOK.out (by rw [HRY.out]))
        have HFS := Lib.hid (show (fillU f l outer n inner o k j).set D y = fillU f l outer n inner o k (j + 1) by
         have h9 := fillU_set f l HLO.out HLK.out HLJ.out
         rw [HRY.out, hDe] at h9; exact h9)
        have hcw := owns_cell HO.out D (by unfold f64s; rw [List.length_map, fillU_len, ← HLL.out.1, HNE.out]; exact hpl)
        have hfr := World.ownsRow.frozenAt HO.out D
        have HBW := Lib.hid (show W1.heap.size ≤ bk from Nat.le_of_eq HBK.out)
        clear hM hD hDe hy hyg e2
        go_wp2
        go_roundw
        case rel =>
         refine ⟨j + 1, by omega, by go_num, HOK2.out, ?_, HK.out.setCell HBW.out _, HQ.out.keep (Kept.setCell _ _ _ (by simp)) (fun _ _ h => h)⟩
         have h9 := (World.ownsRow.stored HO.out D (.float .f64 y)).1
         rw [← HFS.out]
         unfold f64s at h9 ⊢
         rw [List.map_set]
         exact h9
        case measure => simp [intOf]; omega
       ·have hjn : j = n := by omega
        have HOK2 := Lib.hid (okU_row (hjn ▸ HOK.out))
        rw [hjn, fillU_row] at HO
        clear hjn
        go_wp2
        go_roundw
        case rel => exact ⟨k + 1, by omega, by go_num, HOK2.out, HO.out, HK.out⟩
        case measure => simp [intOf]; omega
     ·have HE2 := Lib.hid (show errG (rowN f) P = E1 by
       have hx : ∃ j, j < n ∧ (rowN f (r.take (j + 1))).2 ≠ 0 := by
        refine Classical.byContradiction fun h9 => h0 ?_
        rw [← HE1.out]
        refine errG_all fun y hy => ?_
        obtain ⟨j, hj, rfl⟩ := List.mem_map.1 hy
        have hj := List.mem_range.1 hj
        rw [HRN.out] at hj
        exact Classical.byContradiction fun h8 => h9 ⟨j, hj, h8⟩
       obtain ⟨j, hj, hb⟩ := hx
       have a1 := upRows_err HFK.out (l := l) (outer := outer) (n := n) (inner := inner) (List.mem_of_getElem? (upRows_get HLO.out hj HLK.out)) (by rw [HRE.out]; exact hb)
       rw [HPE.out, HRE.out] at a1
       have b1 := rowN_err HFK.out (r.take (j + 1))
       have c1 := errG_err (c := 24) (rowN_err HFK.out) (upsR r)
       rw [HE1.out] at c1
       rw [a1]; omega)
      have hne : (E1 != 0) = true := by simp [h0]
      have HNE0 := Lib.hid h0; clear h0
      go_wp2
      refine bodyPost_ret (v := .tuple #[.agg #[.nilIface], .int .i64 E1]) (by simp [results, Tryz.results35, go_sem, cHR0]) rfl ⟨.nilIface, ?_, ?_, HB8.out.setCell (Nat.le_refl _) _⟩
      ·rw [HEE.out, HE2.out]
      ·rw [HRR.out, HE2.out, if_neg HNE0.out]; exact .none
    ·have hki : k = inner := by omega
     have HOK2 := Lib.hid (okU_cell (hki ▸ HOK.out))
     rw [hki, fillU_cell] at HO
     clear hki; have hom := HOM.out
     go_wp2
     go_roundw
     case rel => exact ⟨o + 1, by omega, by go_num, HOK2.out, HO.out, HK.out⟩
     case measure => simp [intOf]; omega
  ·have hoo : o = outer := by omega
   rw [hoo] at HOK HO
   have HE2 := Lib.hid (show errG (rowN f) P = 0 by rw [← HPE.out]; exact okU_all HOK.out)
   obtain ⟨L, hL⟩ : ∃ L, outG (rowN f) P = L := ⟨_, rfl⟩
   have HLE := Lib.hid (show L.length = N by rw [← hL, outG_len, ← HPE.out, upRows_len, ← HLL.out.1, HNE.out])
   have HLN := Lib.hid (show ∀ x ∈ L, Num x by rw [← hL]; exact outG_num HPN.out)
   have HRE := Lib.hid (show R = sqL L by rw [HRR.out, if_pos HE2.out, hL])
   have HLS := Lib.hid (show Slc wr (fun b => bk ≤ b) (.slice (some ⟨bk, 0, none⟩) N N) L.length (f64s L) by
    have := Slc.owned HO.out
    rw [fillU_all, HPE.out, hL] at this
    rw [HLE.out]; exact this)
   have HLM := Lib.hid (show L.length ≤ 1048576 by rw [HLE.out]; exact HNL.out)
   clear hoo hL
   have HB2 := Lib.hid (HB.out.trans (HK.out.mono HB.out.size))
   have HRW := Lib.hid (HR.out.below HK.out)
   have HTW := Lib.hid (show TabAt wr from fun j hj => keep_below HK.out _ _ (HT.out j hj))
   have HSW := Lib.hid HK.out.size
   go_wp2_with fail
   refine (numbers_yes _ L _ HLS.out HLM.out (fun x hx => (HLN.out x hx).1) HTW.out).mono ?_
   rintro e W11 ⟨uq, rfl, huq, hB⟩
   replace HB2 := cb hB HB2; replace HRW := HRW.go hB
   rw [map_ze HLN.out] at huq
   have HQ := Lib.hid (show IsV W11 (fun b => w.heap.size + 1 ≤ b) uq (sqL L) from huq.wide (fun b _ (h : wr.heap.size ≤ b) => by have := HWS.out; have := HSW.out; omega))
   have hsq := huq.store; clear huq; clear hB
   obtain ⟨W12, hWn, hB, hNB⟩ := ahd1 W11 (uq) 25
   replace HB2 := cb hB HB2; replace HRW := HRW.go hB; replace HQ := HQ.go hB; have HQV := Lib.hid hNB; clear hNB hB; have cHRW0 := HRW.out.2.1; have zHRW0 := HRW.out.2.2 0; have cHQV0 := HQV.out.2.1
   go_wp2_with fail
   clear hWn
   refine bodyPost_ret (v := .tuple #[.agg #[uq], .int .i64 0]) (by simp [results, Tryz.results35, go_sem, cHRW0]) rfl ⟨uq, ?_, ?_, HB2.out.setCell (Nat.le_refl _) _⟩
   ·rw [HEE.out, HE2.out]
   ·rw [HRE.out]
    exact HQ.out.keep (Kept.setCell _ _ _ (by simp)) (fun b _ (h : w.heap.size + 1 ≤ b) => by omega)
end Go.Proofs.YtbacchbcanlciaaGreatDoor

/- Layer 14, walked: Scan of package scan. -/
namespace Go.Proofs.YtbacchbcanlciaaGreatDoor
set_option maxRecDepth 100000
open Go.RowKit Fl
set_option linter.unusedVariables false

set_option maxHeartbeats 8000000 in
theorem scscan_calls {ok : Nat → Prop} (f : Int) (u : Value) (V : VV) (outer n inner : Nat) (w : World) (hA : IsV w ok u V) (oA : V.ok) (nA : V.nm) (hl : V.len = outer * n * inner) (hno : n ≤ 1048576) (him : inner ≤ 1048576) (hom : outer ≤ 1048576) (hT : TabAt w) :
  Calls Tryz.prog 9 #[.int .i64 f, .agg #[u], .int .i64 (outer : Int), .int .i64 (n : Int), .int .i64 (inner : Int)] w fun e w' => ∃ u', e = .returned (.tuple #[.agg #[u'], .int .i64 (scE f V outer n inner)]) ∧ IsV w' (fun _ => True) u' (scV f V outer n inner) ∧ Below w.heap.size w w' := by
 obtain ⟨E, hEE⟩ : ∃ E : Int, E = scE f V outer n inner := ⟨_, rfl⟩
 obtain ⟨R, hRR⟩ : ∃ R : VV, R = scV f V outer n inner := ⟨_, rfl⟩
 rw [← hRR, ← hEE]
 have HRR := Lib.hid hRR; have HEE := Lib.hid hEE; have hsu := hA.store; have HOA := Lib.hid oA; have HNA := Lib.hid nA; have HLL := Lib.hid hl; have HNO := Lib.hid hno; have HIM := Lib.hid him; have HOM := Lib.hid hom
 have HVM := Lib.hid (VV.ok_len oA)
 obtain ⟨W1, hW1⟩ : ∃ W1, W1 = (w.alloc (.cells #[u] 25)).alloc (.cells #[.nilIface] 25) := ⟨_, rfl⟩
 have HB := Lib.hid (show Below w.heap.size w W1 by rw [hW1]; exact (below_new _ _).alloc (by simp) _)
 have HA := Lib.hid (show At1 W1 w.heap.size u by rw [hW1]; exact (At1.new w _ _).below (below_new _ _))
 have HR := Lib.hid (show At1 W1 (w.heap.size + 1) .nilIface by rw [hW1]; have := At1.new (w.alloc (.cells #[u] 25)) .nilIface 25; simpa using this)
 have HU := Lib.hid (show IsV W1 (fun b => ok b ∧ b < w.heap.size) u V from (hA.wide (ok' := fun b => ok b ∧ b < w.heap.size) (fun b hb h => ⟨h, hb⟩)).grow HB.out)
 have HT := Lib.hid (show TabAt W1 from fun j hj => keep_below HB.out _ _ (hT j hj))
 have HWS := Lib.hid (show W1.heap.size = w.heap.size + 2 by rw [hW1]; simp)
 have HW1 := Lib.hid (Below.refl W1.heap.size W1)
 obtain ⟨M, hM⟩ : ∃ M : Nat, (if (inner : Int) < (if (n : Int) < (outer : Int) then (n : Int) else (outer : Int)) then (inner : Int) else (if (n : Int) < (outer : Int) then (n : Int) else (outer : Int))) = (M : Int) := ⟨_, (Int.toNat_of_nonneg (by (repeat' split) <;> omega)).symm⟩
 have hmin : ∀ (ts : Array TypeId) (t : TypeId) (w : World), (Builtin.min_ ts t #[.int .i64 (outer : Int), .int .i64 (n : Int), .int .i64 (inner : Int)]).run Tryz.prog w = .ok (.int .i64 (M : Int)) w := fun ts t w => by rw [run_min_int3, hM]
 have h1 : ¬ (M : Int) < 0 := by omega
 have hfold := hW1.symm
 clear hA hT oA nA hl hW1 hEE hRR hno him hom hM
 by_cases hk : fknown f = true
 rotate_left
 ·have HKN := Lib.hid (show fknown f = false by simpa using hk)
  have HE1 := Lib.hid (scE_1 (V := V) (outer := outer) (n := n) (inner := inner) HKN.out)
  clear hk; have cHA0 := HA.out.2.1; have cHR0 := HR.out.2.1; have zHR0 := HR.out.2.2 0
  go_enter Tryz.func9, Tryz.ntmps9
  go_wp2_with ((with_reducible refine (foknown_calls _ _).mono ?_); rintro e w' ⟨rfl, rfl⟩; rw [HKN.out])
  clear hfold
  refine bodyPost_ret (v := .tuple #[.agg #[.nilIface], .int .i64 1]) (by simp [results, Tryz.results9, go_sem, cHR0]) rfl ⟨.nilIface, by rw [HEE.out, HE1.out], ?_, HB.out.setCell (by show w.heap.size ≤ w.heap.size + 1; omega) _⟩
  rw [HRR.out, scV_bad (by rw [HE1.out]; decide)]; exact .none
 have HKN := Lib.hid hk
 obtain ⟨q, hq⟩ : ∃ q, decide (V.cls = 0 ∨ (V.cls = 1 ∧ (n : Int) ≤ 1)) = q := ⟨_, rfl⟩
 have HQ0 := Lib.hid hq
 cases q
 ·have HE1 := Lib.hid (show scE f V outer n inner = 24 from scE_24 hk (by
   have h9 := of_decide_eq_false hq
   rcases VV.cls3 V with h | h | h
   ·exact absurd (.inl h) h9
   ·exact .inr ⟨h, Nat.lt_of_not_le fun h8 => h9 (.inr ⟨h, by omega⟩)⟩
   ·exact .inl h))
  clear hk hq; have cHA0 := HA.out.2.1; have cHR0 := HR.out.2.1; have zHR0 := HR.out.2.2 0
  go_enter Tryz.func9, Tryz.ntmps9
  go_wp2_with ((with_reducible refine (foknown_calls _ _).mono ?_); rintro e w' ⟨rfl, rfl⟩; rw [HKN.out])
  clear hfold
  refine (class_calls _ V _ HU.out).mono ?_
  rintro e W11 ⟨rfl, hB⟩
  clear cHA0 cHR0 zHR0; replace HB := cb hB HB; replace HW1 := cb hB HW1; replace HT := HT.go hB; replace HU := HU.go hB; replace HA := HA.go hB; replace HR := HR.go hB; clear hB; have cHA0 := HA.out.2.1; have cHR0 := HR.out.2.1; have zHR0 := HR.out.2.2 0
  go_wp2_with fail
  refine (scall_calls _ _ _).mono ?_
  rintro e w' ⟨rfl, rfl⟩
  rw [HQ0.out]
  go_wp2_with fail
  refine bodyPost_ret (v := .tuple #[.agg #[.nilIface], .int .i64 24]) (by simp [results, Tryz.results9, go_sem, cHR0]) rfl ⟨.nilIface, by rw [HEE.out, HE1.out], ?_, HB.out.setCell (by show w.heap.size ≤ w.heap.size + 1; omega) _⟩
  rw [HRR.out, scV_bad (by rw [HE1.out]; decide)]; exact .none
 ·by_cases h11 : n ≤ 1
  ·have HE1 := Lib.hid (show scE f V outer n inner = 0 from scE_one hk (by have h9 := of_decide_eq_true hq; omega) h11)
   have HV1 := Lib.hid (show R = V by rw [HRR.out, scV_one HE1.out h11])
   have hb1 : (n : Int) ≤ 1 := by omega
   clear hk hq h11; have cHA0 := HA.out.2.1; have cHR0 := HR.out.2.1; have zHR0 := HR.out.2.2 0
   go_enter Tryz.func9, Tryz.ntmps9
   go_wp2_with ((with_reducible refine (foknown_calls _ _).mono ?_); rintro e w' ⟨rfl, rfl⟩; rw [HKN.out])
   clear hfold
   refine (class_calls _ V _ HU.out).mono ?_
   rintro e W11 ⟨rfl, hB⟩
   clear cHA0 cHR0 zHR0; replace HB := cb hB HB; replace HW1 := cb hB HW1; replace HT := HT.go hB; replace HU := HU.go hB; replace HA := HA.go hB; replace HR := HR.go hB; clear hB; have cHA0 := HA.out.2.1; have cHR0 := HR.out.2.1; have zHR0 := HR.out.2.2 0
   go_wp2_with fail
   refine (scall_calls _ _ _).mono ?_
   rintro e w' ⟨rfl, rfl⟩
   rw [HQ0.out]
   go_wp2_with fail
   refine bodyPost_ret (v := .tuple #[.agg #[u], .int .i64 0]) (by simp [results, Tryz.results9, go_sem, cHR0]) rfl ⟨u, by rw [HEE.out, HE1.out], ?_, HB.out.setCell (by show w.heap.size ≤ w.heap.size + 1; omega) _⟩
   rw [HV1.out]
   exact HU.out.keep (Kept.setCell _ _ _ (by simp)) (fun b _ h => trivial)
  have hb1 : ¬ (n : Int) ≤ 1 := by omega
  have HC0 := Lib.hid (show V.cls = 0 by have h9 := of_decide_eq_true hq; omega)
  have HNL := Lib.hid (show V.nums.length = outer * n * inner by rw [VV.nums_len0 HC0.out, HLL.out])
  have HLE := Lib.hid (show (V.len : Int) = ((outer * n * inner : Nat) : Int) by rw [HLL.out])
  have HSZ := Lib.hid (show outer * n * inner ≤ 1048576 by rw [← HLL.out]; exact HVM.out)
  have HN0 := Lib.hid (show 0 < n by omega)
  obtain ⟨P, hP⟩ : ∃ P, upRows V.nums outer n inner = P := ⟨_, rfl⟩
  have HPE := Lib.hid hP
  have HE1 := Lib.hid (show scE f V outer n inner = errG (rowN f) P by rw [scE_num hk HC0.out (by omega), hP])
  have HV1 := Lib.hid (show R = if errG (rowN f) P = 0 then sqL (outG (rowN f) P) else .none by
   rw [HRR.out]
   split
   ·rename_i h; rw [scV_num (by rw [HE1.out]; exact h) (by omega), hP]
   ·rename_i h; exact scV_bad (by rw [HE1.out]; exact h))
  have HNN := Lib.hid (VV.nums_num HOA.out HNA.out)
  clear hk hq h11 hP; have cHA0 := HA.out.2.1; have cHR0 := HR.out.2.1; have zHR0 := HR.out.2.2 0
  go_enter Tryz.func9, Tryz.ntmps9
  go_wp2_with ((with_reducible refine (foknown_calls _ _).mono ?_); rintro e w' ⟨rfl, rfl⟩; rw [HKN.out])
  clear hfold
  refine (class_calls _ V _ HU.out).mono ?_
  rintro e W11 ⟨rfl, hB⟩
  clear cHA0 cHR0 zHR0; replace HB := cb hB HB; replace HW1 := cb hB HW1; replace HT := HT.go hB; replace HU := HU.go hB; replace HA := HA.go hB; replace HR := HR.go hB; clear hB; have cHA0 := HA.out.2.1; have cHR0 := HR.out.2.1; have zHR0 := HR.out.2.2 0
  go_wp2_with fail
  refine (scall_calls _ _ _).mono ?_
  rintro e w' ⟨rfl, rfl⟩
  rw [HQ0.out]
  go_wp2_with fail
  refine (vlen_calls _ V _ HU.out).mono ?_
  rintro e W12 ⟨rfl, hB⟩
  clear cHA0 cHR0 zHR0; replace HB := cb hB HB; replace HW1 := cb hB HW1; replace HT := HT.go hB; replace HU := HU.go hB; replace HA := HA.go hB; replace HR := HR.go hB; rw [HLE.out]; clear hB; have cHA0 := HA.out.2.1; have cHR0 := HR.out.2.1; have zHR0 := HR.out.2.2 0
  go_wp2_with fail
  refine (scsized_calls outer n inner _ HSZ.out HN0.out HNO.out HOM.out HIM.out).mono ?_
  rintro e w' ⟨rfl, rfl⟩
  go_wp2_with fail
  refine (vlen_calls _ V _ HU.out).mono ?_
  rintro e W13 ⟨rfl, hB⟩
  clear cHA0 cHR0 zHR0; replace HB := cb hB HB; replace HW1 := cb hB HW1; replace HT := HT.go hB; replace HU := HU.go hB; replace HA := HA.go hB; replace HR := HR.go hB; clear hB; have cHA0 := HA.out.2.1; have cHR0 := HR.out.2.1; have zHR0 := HR.out.2.2 0
  by_cases h00 : V.len = 0
  ·have hb0 : ((V.len : Int) == 0) = true := by rw [h00]; rfl
   have HP0 := Lib.hid (show P = [] from List.eq_nil_of_length_eq_zero (by rw [← HPE.out, upRows_len, ← HLL.out]; exact h00))
   have HR0 := Lib.hid (show R = .bits [] by rw [HV1.out, HP0.out]; exact (bits_sq (l := []) (by decide)).symm)
   clear h00
   go_wp2_with fail
   refine (vnone_calls 0 _).mono ?_
   rintro e W14 ⟨uq, rfl, huq, hB⟩
   clear cHA0 cHR0 zHR0; replace HB := cb hB HB; replace HW1 := cb hB HW1; replace HT := HT.go hB; replace HU := HU.go hB; replace HA := HA.go hB; replace HR := HR.go hB; have HQ := Lib.hid huq; have hsq := huq.store; clear huq; clear hB; have cHA0 := HA.out.2.1; have cHR0 := HR.out.2.1; have zHR0 := HR.out.2.2 0
   go_wp2_with fail
   refine bodyPost_ret (v := .tuple #[.agg #[uq], .int .i64 0]) (by simp [results, Tryz.results9, go_sem, cHR0]) rfl ⟨uq, by rw [HEE.out, HE1.out, HP0.out]; rfl, ?_, HB.out.setCell (by show w.heap.size ≤ w.heap.size + 1; omega) _⟩
   rw [HR0.out]
   exact HQ.out.any.bits_set HR.out.2.1 (.inl rfl) _
  have hb0 : ((V.len : Int) == 0) = false := by rw [beq_eq_false_iff_ne]; omega
  have HLP := Lib.hid (show 0 < V.len by omega)
  clear h00
  go_wp2_with fail
  refine (packed_x _ V _ HU.out).mono ?_
  rintro e W14 ⟨vp, rfl, hvp, hB⟩
  clear cHA0 cHR0 zHR0; replace HB := cb hB HB; replace HW1 := cb hB HW1; replace HT := HT.go hB; replace HU := HU.go hB; replace HA := HA.go hB; replace HR := HR.go hB; have HVP := Lib.hid hvp.bits
  obtain ⟨ap, cp, rfl, _⟩ := HVP.out.opened
  clear hvp; clear hB
  obtain ⟨W15, hWn, hB, hNB⟩ := ahd2 W14 (.int .i64 V.packed.length) (.slice ap ((V.packed.length + 63) / 64) cp) 63
  replace HB := cb hB HB; replace HW1 := cb hB HW1; replace HT := HT.go hB; replace HU := HU.go hB; replace HA := HA.go hB; replace HR := HR.go hB; replace HVP := HVP.go hB; have HP := Lib.hid hNB; clear hNB hB; have cHA0 := HA.out.2.1; have cHR0 := HR.out.2.1; have zHR0 := HR.out.2.2 0; have cHP0 := HP.out.2.1; have cHP1 := HP.out.2.2.1
  obtain ⟨bt, hbt⟩ : ∃ bt, V.isBit = bt := ⟨_, rfl⟩
  rw [hbt]
  cases bt
  ·clear hbt
   go_wp2_with fail
   clear hWn
   refine (vnums_calls _ V _ HU.out HOA.out HT.out).mono ?_
   rintro e W16 ⟨vn, rfl, hvn, hB⟩
   clear cHA0 cHR0 zHR0 cHP0 cHP1; replace HB := cb hB HB; replace HW1 := cb hB HW1; replace HT := HT.go hB; replace HU := HU.go hB; replace HA := HA.go hB; replace HR := HR.go hB; replace HVP := HVP.go hB; replace HP := HP.go hB; have HVN := Lib.hid hvn.any; clear hvn; clear hB; have cHA0 := HA.out.2.1; have cHR0 := HR.out.2.1; have zHR0 := HR.out.2.2 0; have cHP0 := HP.out.2.1; have cHP1 := HP.out.2.2.1
   go_wp2_with fail
   have hO := HW1.out.size
   refine (scnumbers_calls f _ V.nums outer n inner _ HKN.out HVN.out HNL.out (by rw [HNL.out]; exact HSZ.out) HNN.out HN0.out HNO.out HIM.out HOM.out HT.out).mono ?_
   rintro e W17 ⟨uq, rfl, huq, hB⟩
   clear cHA0 cHR0 zHR0 cHP0 cHP1; replace HB := cb hB HB; replace HW1 := cb hB HW1; replace HT := HT.go hB; replace HU := HU.go hB; replace HA := HA.go hB; replace HR := HR.go hB; replace HVP := HVP.go hB; replace HP := HP.go hB; replace HVN := HVN.go hB
   rw [HPE.out] at huq ⊢
   rw [← HV1.out] at huq
   rw [← HE1.out, ← HEE.out]
   have HQ := Lib.hid (show IsV W17 (fun b => w.heap.size + 2 ≤ b) uq R from huq.wide (fun b _ (h : W16.heap.size ≤ b) => by have := HWS.out; omega))
   have hsq := huq.store; clear huq hO; clear hB; have cHA0 := HA.out.2.1; have cHR0 := HR.out.2.1; have zHR0 := HR.out.2.2 0; have cHP0 := HP.out.2.1; have cHP1 := HP.out.2.2.1
   go_wp2_with fail
   refine bodyPost_ret (v := .tuple #[.agg #[uq], .int .i64 E]) (by simp [results, Tryz.results9, go_sem, cHR0]) rfl ⟨uq, rfl, ?_, HB.out.setCell (by show w.heap.size ≤ w.heap.size + 1; omega) _⟩
   exact HQ.out.keep (Kept.setCell _ _ _ (by simp)) (fun b _ (h : w.heap.size + 2 ≤ b) => trivial)
  ·have HPL := Lib.hid (VV.bit_nums hbt)
   have HPK := Lib.hid (show V.packed.length = outer * n * inner by rw [HPL.out.2.1, HLL.out])
   clear hbt
   go_wp2_with fail
   clear hWn; have hO := HW1.out.size
   refine (scflags_calls f _ V.packed outer n inner _ HVP.out (by rw [HPK.out]; exact HSZ.out) HPK.out (by rw [HPL.out.2.1]; exact HLP.out) HNO.out HIM.out HT.out).mono ?_
   rintro e W16 ⟨uz, r, rfl, hr, hB⟩
   clear cHA0 cHR0 zHR0 cHP0 cHP1; replace HB := cb hB HB; replace HW1 := cb hB HW1; replace HT := HT.go hB; replace HU := HU.go hB; replace HA := HA.go hB; replace HR := HR.go hB; replace HVP := HVP.go hB; replace HP := HP.go hB
   have HSO := Lib.hid (show w.heap.size + 2 ≤ W15.heap.size by have := HWS.out; omega)
   clear hO; clear hB
   rcases hr with ⟨rfl, t, htc, hi⟩ | ⟨rfl, hz⟩
   ·have HUF := Lib.hid (ups_flags htc V.packed outer n inner HN0.out)
    have HI := Lib.hid hi
    have HEZ := Lib.hid (show errG (rowN f) P = 0 by rw [← HPE.out, HPL.out.1]; exact HUF.out.1)
    have HRZ := Lib.hid (show R = .bits (upB t V.packed outer n inner) by
     rw [HV1.out, if_pos HEZ.out, ← HPE.out, HPL.out.1, HUF.out.2]
     exact (bits_sq (by rw [upB_len]; exact HSZ.out)).symm)
    have hsz := hi.store; clear hi htc
    obtain ⟨W17, hWn, hB, hNB⟩ := ahd1 W16 (uz) 25
    replace HB := cb hB HB; replace HW1 := cb hB HW1; replace HT := HT.go hB; replace HU := HU.go hB; replace HA := HA.go hB; replace HR := HR.go hB; replace HVP := HVP.go hB; replace HP := HP.go hB; replace HI := HI.go hB; have HZA := Lib.hid hNB; clear hNB hB; have cHA0 := HA.out.2.1; have cHR0 := HR.out.2.1; have zHR0 := HR.out.2.2 0; have cHP0 := HP.out.2.1; have cHP1 := HP.out.2.2.1; have cHZA0 := HZA.out.2.1
    go_wp2_with fail
    clear hWn
    refine bodyPost_ret (v := .tuple #[.agg #[uz], .int .i64 0]) (by simp [results, Tryz.results9, go_sem, cHR0]) rfl ⟨uz, by rw [HEE.out, HE1.out, HEZ.out], ?_, HB.out.setCell (by show w.heap.size ≤ w.heap.size + 1; omega) _⟩
    rw [HRZ.out]
    exact HI.out.bits_set HR.out.2.1 (.inl rfl) _
   ·have hsz : ∀ (w : World) (a : Addr) (m : Mode), (store a uz m).run Tryz.prog w = stored Tryz.prog w a uz m := by subst hz; exact fun w a m => run_store Tryz.prog w a _ m rfl
    clear hz
    obtain ⟨W17, hWn, hB, hNB⟩ := ahd1 W16 (uz) 25
    replace HB := cb hB HB; replace HW1 := cb hB HW1; replace HT := HT.go hB; replace HU := HU.go hB; replace HA := HA.go hB; replace HR := HR.go hB; replace HVP := HVP.go hB; replace HP := HP.go hB; have HZA := Lib.hid hNB; clear hNB hB; have cHA0 := HA.out.2.1; have cHR0 := HR.out.2.1; have zHR0 := HR.out.2.2 0; have cHP0 := HP.out.2.1; have cHP1 := HP.out.2.2.1; have cHZA0 := HZA.out.2.1
    go_wp2_with fail
    clear hWn
    refine (vnums_calls _ V _ HU.out HOA.out HT.out).mono ?_
    rintro e W18 ⟨vn, rfl, hvn, hB⟩
    clear cHA0 cHR0 zHR0 cHP0 cHP1 cHZA0; replace HB := cb hB HB; replace HW1 := cb hB HW1; replace HT := HT.go hB; replace HU := HU.go hB; replace HA := HA.go hB; replace HR := HR.go hB; replace HVP := HVP.go hB; replace HP := HP.go hB; replace HZA := HZA.go hB; have HVN := Lib.hid hvn.any; clear hvn; clear hB; have cHA0 := HA.out.2.1; have cHR0 := HR.out.2.1; have zHR0 := HR.out.2.2 0; have cHP0 := HP.out.2.1
    have cHP1 := HP.out.2.2.1; have cHZA0 := HZA.out.2.1
    go_wp2_with fail
    have hO := HW1.out.size
    refine (scnumbers_calls f _ V.nums outer n inner _ HKN.out HVN.out HNL.out (by rw [HNL.out]; exact HSZ.out) HNN.out HN0.out HNO.out HIM.out HOM.out HT.out).mono ?_
    rintro e W19 ⟨uq, rfl, huq, hB⟩
    clear cHA0 cHR0 zHR0 cHP0 cHP1 cHZA0; replace HB := cb hB HB; replace HW1 := cb hB HW1; replace HT := HT.go hB; replace HU := HU.go hB; replace HA := HA.go hB; replace HR := HR.go hB; replace HVP := HVP.go hB; replace HP := HP.go hB; replace HZA := HZA.go hB; replace HVN := HVN.go hB
    rw [HPE.out] at huq ⊢
    rw [← HV1.out] at huq
    rw [← HE1.out, ← HEE.out]
    have HQ := Lib.hid (show IsV W19 (fun b => w.heap.size + 2 ≤ b) uq R from huq.wide (fun b _ (h : W18.heap.size ≤ b) => by have := HWS.out; omega))
    have hsq := huq.store; clear huq hO; clear hB; have cHA0 := HA.out.2.1; have cHR0 := HR.out.2.1; have zHR0 := HR.out.2.2 0; have cHP0 := HP.out.2.1; have cHP1 := HP.out.2.2.1; have cHZA0 := HZA.out.2.1
    go_wp2_with fail
    refine bodyPost_ret (v := .tuple #[.agg #[uq], .int .i64 E]) (by simp [results, Tryz.results9, go_sem, cHR0]) rfl ⟨uq, rfl, ?_, HB.out.setCell (by show w.heap.size ≤ w.heap.size + 1; omega) _⟩
    exact HQ.out.keep (Kept.setCell _ _ _ (by simp)) (fun b _ (h : w.heap.size + 2 ≤ b) => trivial)
end Go.Proofs.YtbacchbcanlciaaGreatDoor

/- Layer 14, walked: the reference's Scan. -/
namespace Go.Proofs.YtbacchbcanlciaaGreatDoor
set_option maxRecDepth 100000
open Go.RowKit Fl
set_option linter.unusedVariables false

set_option maxHeartbeats 16000000 in
theorem rsscan_calls {ok : Nat → Prop} (f : Int) (v : Value) (l : List Nat) (outer n inner : Nat) (w : World) (hv : Slc w ok v l.length (f64s l)) (hl : l.length = outer * n * inner) (hlm : l.length ≤ 1048576) (hN : ∀ x ∈ l, Num x) (hnm : n ≤ 1048576) (him : inner ≤ 1048576) (hom : outer ≤ 1048576) :
  Calls Tryz.prog 10 #[.int .i64 f, v, .int .i64 (outer : Int), .int .i64 (n : Int), .int .i64 (inner : Int)] w fun e w' => ∃ v', e = .returned (.tuple #[v', .int .i64 (rsE f l outer n inner)]) ∧ Slc w' (fun b => w.heap.size ≤ b) v' (rsL f l outer n inner).length (f64s (rsL f l outer n inner)) ∧ Below w.heap.size w w' := by
 obtain ⟨E, hEE⟩ : ∃ E : Int, E = rsE f l outer n inner := ⟨_, rfl⟩
 obtain ⟨R, hRR⟩ : ∃ R, R = rsL f l outer n inner := ⟨_, rfl⟩
 rw [← hRR, ← hEE]
 have HRR := Lib.hid hRR; have HEE := Lib.hid hEE; have HV := Lib.hid hv
 have HLL := Lib.hid (And.intro hl hlm)
 have HNM := Lib.hid hN; clear hRR hEE
 obtain ⟨ao, cap, rfl, _⟩ := hv.opened
 have hst := run_store_float
 by_cases hk : fknown f = true
 rotate_left
 ·have HK := Lib.hid (show fknown f = false by simpa using hk)
  have HE0 := Lib.hid (rsE_1 (l := l) (outer := outer) (n := n) (inner := inner) HK.out)
  have HR0 := Lib.hid (show R = [] by rw [HRR.out]; exact rsL_bad (by rw [HE0.out]; decide))
  clear hv hl hlm hN hk
  go_enter Tryz.func10, Tryz.ntmps10
  go_wp2_with ((with_reducible refine (rfknown_calls _ _).mono ?_); rintro e w' ⟨rfl, rfl⟩; rw [HK.out])
  go_ret2
  refine ⟨.slice none 0 0, ?_, ?_, Below.refl _ _⟩
  ·(rw [HEE.out, HE0.out]) <;> rfl
  ·rw [HR0.out]; exact Slc.nil _ _
 have HK := Lib.hid hk
 have HE1 := Lib.hid (rsE_yes (l := l) (outer := outer) (n := n) (inner := inner) hk)
 have h1 : ¬ (outer : Int) < 0 := by omega
 have h2 : ¬ (n : Int) < 0 := by omega
 have h3 : ¬ (inner : Int) < 0 := by omega
 have HIM := Lib.hid him; have HNN := Lib.hid hnm; have HOM := Lib.hid hom
 obtain ⟨N, hNe⟩ : ∃ N, l.length = N := ⟨_, rfl⟩
 have HNE := Lib.hid hNe
 have HNL := Lib.hid (show N ≤ 1048576 by omega)
 rw [hNe] at HV ⊢
 have hmk := run_mkF1 N (by omega) w
 obtain ⟨W0, hW0⟩ : ∃ W0, W0 = w.alloc (.cells (zerosV (.float .f64 0) N) 42) := ⟨_, rfl⟩
 have HO0 := Lib.hid (show W0.ownsRow w.heap.size 42 1 (.slice (some ⟨w.heap.size, 0, none⟩) N N) N (f64s (fillU f l outer n inner 0 0 0)) by
  rw [hW0, fillU_zero, ← hl, hNe]; unfold f64s; rw [List.map_replicate]; exact own_make1 _ _ _ (by omega) _ _ (Nat.le_refl _))
 have HS0 := Lib.hid (show w.heap.size < W0.heap.size by rw [hW0]; simp)
 have HW := Lib.hid (show Below w.heap.size w W0 by rw [hW0]; exact below_new _ _)
 have hfold := hW0.symm
 clear hv hl hlm hN hk hW0 hNe
 go_enter Tryz.func10, Tryz.ntmps10
 go_wp2_with ((with_reducible refine (rfknown_calls _ _).mono ?_); rintro e w' ⟨rfl, rfl⟩; rw [HK.out])
 clear hfold hmk
 go_loopw [13] (fun i wr => ∃ o : Nat, o ≤ outer ∧ i = .int .i64 o ∧ okU f l outer n inner o 0 0 ∧ wr.ownsRow w.heap.size 42 1 (.slice (some ⟨w.heap.size, 0, none⟩) N N) N (f64s (fillU f l outer n inner o 0 0)) ∧ w.heap.size < wr.heap.size ∧ Below w.heap.size w wr) (fun i _ => outer - (intOf i).toNat)
 case atStart => exact ⟨0, by omega, rfl, okU_zero _ _ _ _ _, HO0.out, HS0.out, HW.out⟩
 case round =>
  obtain ⟨o, ho, rfl, hok, hown, hsz, hB⟩ := hrel
  have HO := Lib.hid hown; have HB := Lib.hid hB; have HOK := Lib.hid hok; have HSZ := Lib.hid hsz; clear hown hB hok hsz
  by_cases hlo : o < outer
  ·have HLO := Lib.hid hlo
   go_wp2_with fail
   go_loopw [14] (fun i wr => ∃ k : Nat, k ≤ inner ∧ i = .int .i64 k ∧ okU f l outer n inner o k 0 ∧ wr.ownsRow w.heap.size 42 1 (.slice (some ⟨w.heap.size, 0, none⟩) N N) N (f64s (fillU f l outer n inner o k 0)) ∧ w.heap.size < wr.heap.size ∧ Below w.heap.size w wr) (fun i _ => inner - (intOf i).toNat)
   case atStart => exact ⟨0, by omega, rfl, HOK.out, HO.out, HSZ.out, HB.out⟩
   case round =>
    obtain ⟨k, hk, rfl, hok, hown, hsz, hB⟩ := hrel
    have HO := Lib.hid hown; have HB := Lib.hid hB; have HOK := Lib.hid hok; have HSZ := Lib.hid hsz; clear hown hB hok hsz
    by_cases hlk : k < inner
    ·have HLK := Lib.hid hlk
     have HVW := Lib.hid (HV.out.below HB.out)
     obtain ⟨r, hr⟩ : ∃ r, lineG 0 l n inner o k = r := ⟨_, rfl⟩
     have HRE := Lib.hid hr
     have HRN := Lib.hid (show r.length = n by rw [← hr, lineG_len])
     have HRM := Lib.hid (show ∀ x ∈ r, Num x by rw [← hr]; exact lineG_num HNM.out)
     clear hr
     go_wp2_with fail
     refine (rfline_calls _ l outer n inner o k _ (by rw [HNE.out]; exact HVW.out) HLL.out.1 HLL.out.2 HLO.out HLK.out HNN.out HIM.out HOM.out).mono ?_
     rintro e W8 ⟨v8, rfl, hv8, hB8⟩
     rw [HRE.out] at hv8
     have HV8 := Lib.hid (show Slc W8 (fun b => b ≠ w.heap.size) v8 n (f64s r) from hv8.keep (Kept.refl _ _) (fun b _ (h : wr.heap.size ≤ b) => by have := HSZ.out; omega))
     have HSZ8 := Lib.hid (show w.heap.size < W8.heap.size by have := HSZ.out; have := hB8.size; omega)
     have HO8 := Lib.hid (owns_below HO.out hB8)
     have HB8 := Lib.hid (HB.out.trans (hB8.mono HB.out.size))
     clear hB8 hv8
     obtain ⟨ar, cr, rfl, _⟩ := HV8.out.opened
     go_wp2_with fail
     go_loopw [16] (fun i wr => ∃ j : Nat, j ≤ n ∧ i = .int .i64 j ∧ okU f l outer n inner o k j ∧ wr.ownsRow w.heap.size 42 1 (.slice (some ⟨w.heap.size, 0, none⟩) N N) N (f64s (fillU f l outer n inner o k j)) ∧ w.heap.size < wr.heap.size ∧ Below w.heap.size w wr ∧ Slc wr (fun b => b ≠ w.heap.size) (.slice ar n cr) n (f64s r)) (fun i _ => n - (intOf i).toNat)
     case atStart => exact ⟨0, by omega, rfl, HOK.out, HO8.out, HSZ8.out, HB8.out, HV8.out⟩
     case round =>
      obtain ⟨j, hj, rfl, hok, hown, hsz, hB, hrow⟩ := hrel
      have HO := Lib.hid hown; have HB := Lib.hid hB; have HOK := Lib.hid hok; have HSZ := Lib.hid hsz; have HVR := Lib.hid hrow; clear hown hB hok hsz hrow; have hnm := HNN.out
      by_cases hlj : j < n
      ·obtain ⟨y, hy⟩ : ∃ y, rowN f (r.take (j + 1)) = y := ⟨_, rfl⟩
       have HY := Lib.hid hy
       obtain ⟨rt, hrt⟩ : ∃ rt, r.take (j + 1) = rt := ⟨_, rfl⟩
       have HRT := Lib.hid (show rt.length = j + 1 by rw [← hrt, List.length_take, HRN.out]; omega)
       have HVT := Lib.hid (show Slc wr (fun b => b ≠ w.heap.size) (.slice ar (j + 1) cr) rt.length (f64s rt) by
        have h9 := Slc.takem (Value.float .f64) (s := r) (ao := ar) (cap := cr) (by rw [HRN.out]; exact HVR.out) (j + 1) (by rw [HRN.out]; omega)
        rw [hrt] at h9; exact h9)
       have HTM := Lib.hid (show ∀ x ∈ rt, Num x by rw [← hrt]; exact fun x hx => HRM.out x (List.mem_of_mem_take hx))
       rw [hrt] at hy HY
       have HYL := Lib.hid (show rowN f ((lineG 0 l n inner o k).take (j + 1)) = y by rw [HRE.out, hrt]; exact hy)
       obtain ⟨X, hX⟩ : ∃ X, o * n = X := ⟨_, rfl⟩
       obtain ⟨Y, hY⟩ : ∃ Y, X + j = Y := ⟨_, rfl⟩
       obtain ⟨Z, hZ⟩ : ∃ Z, Y * inner = Z := ⟨_, rfl⟩
       obtain ⟨D, hD⟩ : ∃ D, Z + k = D := ⟨_, rfl⟩
       have hpl := place_lt (o := o) (i := j) (k := k) HLO.out hlj HLK.out
       rw [hX, hY, hZ, hD, ← HLL.out.1, HNE.out] at hpl
       have hnl := HNL.out
       have hYZ : Y ≤ Z := by rw [← hZ]; exact Nat.le_mul_of_pos_right _ (by have := HLK.out; omega)
       have q1 : IntKind.i64.wrap ((o : Int) * (n : Int)) = (X : Int) := by rw [← Int.natCast_mul, hX]; exact IntWalk.i64_in _ (by omega)
       have q2 : IntKind.i64.wrap ((X : Int) + (j : Int)) = (Y : Int) := by rw [← Int.natCast_add, hY]; exact IntWalk.i64_in _ (by omega)
       have q3 : IntKind.i64.wrap ((Y : Int) * (inner : Int)) = (Z : Int) := by rw [← Int.natCast_mul, hZ]; exact IntWalk.i64_in _ (by omega)
       have q4 : IntKind.i64.wrap ((Z : Int) + (k : Int)) = (D : Int) := by rw [← Int.natCast_add, hD]; exact IntWalk.i64_in _ (by omega)
       have HPD := Lib.hid (show (o * n + j) * inner + k = D by rw [hX, hY, hZ, hD])
       have HLJ := Lib.hid hlj; clear hrt hy hX hY hZ hD hYZ
       go_wp2_with fail
       refine (rfrow_calls f _ rt _ HVT.out (by rw [HRT.out]; omega) HTM.out).mono ?_
       rintro e W9 ⟨rfl, hB9⟩
       rw [HY.out]
       have HO9 := Lib.hid (owns_below HO.out hB9)
       have HB9 := Lib.hid (HB.out.trans (hB9.mono HB.out.size))
       have HVR9 := Lib.hid (HVR.out.below hB9)
       have HSZ9 := Lib.hid (show w.heap.size < W9.heap.size by have := HSZ.out; have := hB9.size; omega)
       clear hB9
       by_cases h0 : y.2 = 0
       ·have HOK2 := Lib.hid (okU_step HLK.out HLJ.out HOK.out (by rw [HYL.out]; exact h0))
        have HFS := Lib.hid (show (fillU f l outer n inner o k j).set D y.1 = fillU f l outer n inner o k (j + 1) by rw [← HPD.out, ← HYL.out]; exact fillU_set f l HLO.out HLK.out HLJ.out)
        have hcw := owns_cell HO9.out D (by unfold f64s; rw [List.length_map, fillU_len, ← HLL.out.1, HNE.out]; exact hpl)
        have hfr := World.ownsRow.frozenAt HO9.out D
        rw [h0]; clear h0
        go_wp2
        go_roundw
        case rel =>
         refine ⟨j + 1, by omega, by go_num, HOK2.out, ?_, by simpa using HSZ9.out, HB9.out.setCell (Nat.le_refl _) _, HVR9.out.keep (Kept.setCell _ _ _ (by simp)) (fun _ _ h => h)⟩
         have h9 := (World.ownsRow.stored HO9.out D (.float .f64 y.1)).1
         rw [← HFS.out]
         unfold f64s at h9 ⊢
         rw [List.map_set]
         exact h9
        case measure => simp [intOf]; omega
       ·obtain ⟨er, her⟩ : ∃ er, y.2 = er := ⟨_, rfl⟩
        have HE2 := Lib.hid (show rsE f l outer n inner = er by
         rw [HE1.out, upRows_err HK.out (List.mem_of_getElem? (upRows_get HLO.out HLJ.out HLK.out)) (by rw [HYL.out]; exact h0), HYL.out, her])
        have hne : (er != 0) = true := by rw [← her]; simp [h0]
        have HR0 := Lib.hid (show R = [] by rw [HRR.out]; exact rsL_bad (by rw [HE2.out, ← her]; exact h0))
        rw [her]; clear h0 her
        go_wp2
        go_ret2
        refine ⟨.slice none 0 0, ?_, ?_, HB9.out⟩
        ·(rw [HEE.out, HE2.out]) <;> rfl
        ·rw [HR0.out]; exact Slc.nil _ _
      ·have hjn : j = n := by omega
       have HOK2 := Lib.hid (okU_row (hjn ▸ HOK.out))
       rw [hjn, fillU_row] at HO
       clear hjn; have him := HIM.out
       go_wp2
       go_roundw
       case rel => exact ⟨k + 1, by omega, by go_num, HOK2.out, HO.out, HSZ.out, HB.out⟩
       case measure => simp [intOf]; omega
    ·have hki : k = inner := by omega
     have HOK2 := Lib.hid (okU_cell (hki ▸ HOK.out))
     rw [hki, fillU_cell] at HO
     clear hki; have hom := HOM.out
     go_wp2
     go_roundw
     case rel => exact ⟨o + 1, by omega, by go_num, HOK2.out, HO.out, HSZ.out, HB.out⟩
     case measure => simp [intOf]; omega
  ·have hoo : o = outer := by omega
   rw [hoo] at HOK HO
   have HE2 := Lib.hid (show errG (rowN f) (upRows l outer n inner) = 0 from okU_all HOK.out)
   have HR0 := Lib.hid (show R = outG (rowN f) (upRows l outer n inner) by rw [HRR.out, rsL_yes (by rw [HE1.out]; exact HE2.out)])
   rw [fillU_all, ← HR0.out] at HO
   have HL := Lib.hid (show Slc wr (fun b => w.heap.size ≤ b) (.slice (some ⟨w.heap.size, 0, none⟩) N N) R.length (f64s R) by
    rw [HR0.out, outG_len, upRows_len, ← HLL.out.1, HNE.out, ← HR0.out]; exact Slc.owned HO.out)
   clear hoo
   go_wp2
   go_ret2
   refine ⟨_, ?_, HL.out, HB.out⟩
   (rw [HEE.out, HE1.out, HE2.out]) <;> rfl
end Go.Proofs.YtbacchbcanlciaaGreatDoor

/- Layer 14's laws: awake. -/
namespace Go.Proofs.YtbacchbcanlciaaGreatDoor
set_option maxRecDepth 100000
open Go.RowKit Fl
set_option linter.unusedVariables false

def Yes14 (w : World) (e : Ending) (w' : World) : Prop := e = .returned (.bool true) ∧ Below w.heap.size w w'
theorem aw14_fin : ∀ x ∈ ([4607182418800017408, 4611686018427387904, 4613937818241073152] : List Nat), Fnt x := by
 intro x hx
 simp only [List.mem_cons, List.not_mem_nil, or_false] at hx
 rcases hx with rfl | rfl | rfl <;> exact ⟨by decide, by decide⟩
theorem aw14_ze : ([4607182418800017408, 4611686018427387904, 4613937818241073152] : List Nat).map ze = [4607182418800017408, 4611686018427387904, 4613937818241073152] := by decide +kernel
theorem fone_rt1 (a b : Nat) : fone 1 a b = rs (addw a b) := by rw [fone_a a b (by decide)]; unfold oneA; rw [if_pos rfl]
theorem fone_rt2 (a b : Nat) : fone 2 a b = rs (subw a b) := by rw [fone_a a b (by decide)]; unfold oneA; rw [if_neg (by decide), if_pos rfl]
theorem aw14_rows : upRows [4607182418800017408, 4611686018427387904, 4613937818241073152] 1 3 1 = [[4607182418800017408], [4607182418800017408, 4611686018427387904], [4607182418800017408, 4611686018427387904, 4613937818241073152]] := by decide +kernel
theorem aw14_of {f : Int} {a b c : Nat} (h1 : rowN f [4607182418800017408] = (a, 0)) (h2 : rowN f [4607182418800017408, 4611686018427387904] = (b, 0)) (h3 : rowN f [4607182418800017408, 4611686018427387904, 4613937818241073152] = (c, 0)) : errG (rowN f) (upRows [4607182418800017408, 4611686018427387904, 4613937818241073152] 1 3 1) = 0 ∧ outG (rowN f) (upRows [4607182418800017408, 4611686018427387904, 4613937818241073152] 1 3 1) = [a, b, c] := by
 rw [aw14_rows]
 refine ⟨errG_all fun r h => ?_, ?_⟩
 ·simp only [List.mem_cons, List.not_mem_nil, or_false] at h
  rcases h with rfl | rfl | rfl
  ·rw [h1]
  ·rw [h2]
  ·rw [h3]
 ·show [(rowN f _).1, (rowN f _).1, (rowN f _).1] = _
  rw [h1, h2, h3]
theorem aw14_a : errG (rowN 1) (upRows [4607182418800017408, 4611686018427387904, 4613937818241073152] 1 3 1) = 0 ∧ outG (rowN 1) (upRows [4607182418800017408, 4611686018427387904, 4613937818241073152] 1 3 1) = [4607182418800017408, 4613937818241073152, 4618441417868443648] := by
 have e1 : rs (addw 4607182418800017408 4611686018427387904) = (4613937818241073152, 0) := by decide +kernel
 have e2 : rs (addw 4611686018427387904 4613937818241073152) = (4617315517961601024, 0) := by decide +kernel
 have e3 : rs (addw 4607182418800017408 4617315517961601024) = (4618441417868443648, 0) := by decide +kernel
 have h0 : rowN 1 [4611686018427387904] = (4611686018427387904, 0) := rfl
 have h00 : rowN 1 [4613937818241073152] = (4613937818241073152, 0) := rfl
 refine aw14_of rfl ?_ ?_
 ·rw [rowN_cons 1 _ (by simp), h0]; simp only [fone_rt1, e1, nrm, if_true]
 ·rw [rowN_cons 1 _ (by simp), rowN_cons 1 _ (by simp), h00]; simp only [fone_rt1, e2, e3, nrm, if_true]
theorem aw14_b : errG (rowN 2) (upRows [4607182418800017408, 4611686018427387904, 4613937818241073152] 1 3 1) = 0 ∧ outG (rowN 2) (upRows [4607182418800017408, 4611686018427387904, 4613937818241073152] 1 3 1) = [4607182418800017408, 13830554455654793216, 4611686018427387904] := by
 have e1 : rs (subw 4607182418800017408 4611686018427387904) = (13830554455654793216, 0) := by decide +kernel
 have e2 : rs (subw 4611686018427387904 4613937818241073152) = (13830554455654793216, 0) := by decide +kernel
 have e3 : rs (subw 4607182418800017408 13830554455654793216) = (4611686018427387904, 0) := by decide +kernel
 have h0 : rowN 2 [4611686018427387904] = (4611686018427387904, 0) := rfl
 have h00 : rowN 2 [4613937818241073152] = (4613937818241073152, 0) := rfl
 refine aw14_of rfl ?_ ?_
 ·rw [rowN_cons 2 _ (by simp), h0]; simp only [fone_rt2, e1, nrm, if_true]
 ·rw [rowN_cons 2 _ (by simp), rowN_cons 2 _ (by simp), h00]; simp only [fone_rt2, e2, e3, nrm, if_true]
theorem aw14 {V : VV} (h : KepK [4607182418800017408, 4611686018427387904, 4613937818241073152] V) : V.len = 3 ∧ (scE 1 V 1 3 1 = 0 ∧ (scV 1 V 1 3 1).nums = [4607182418800017408, 4613937818241073152, 4618441417868443648] ∧ (scV 1 V 1 3 1).ok) ∧ (scE 2 V 1 3 1 = 0 ∧ (scV 2 V 1 3 1).nums = [4607182418800017408, 13830554455654793216, 4611686018427387904] ∧ (scV 2 V 1 3 1).ok) := by
 obtain ⟨⟨h1, h2, h3, h4, h5⟩, h6⟩ := h
 have ea : scE 1 V 1 3 1 = 0 := by rw [scE_num (by decide) h3 (by decide), h4]; exact aw14_a.1
 have eb : scE 2 V 1 3 1 = 0 := by rw [scE_num (by decide) h3 (by decide), h4]; exact aw14_b.1
 have hl : V.nums.length = 1 * 3 * 1 := by rw [h4]; rfl
 obtain ⟨ma, ka⟩ := scan_meet (f := 1) h1 h2 h3 hl
 obtain ⟨mb, kb⟩ := scan_meet (f := 2) h1 h2 h3 hl
 refine ⟨h5, ⟨ea, ?_, (ka ea).2.1⟩, ⟨eb, ?_, (kb eb).2.1⟩⟩
 ·rw [(ka ea).1, rsL_yes (by rw [← ma]; exact ea), h4]; exact aw14_a.2
 ·rw [(kb eb).1, rsL_yes (by rw [← mb]; exact eb), h4]; exact aw14_b.2
theorem scscan_at {ok : Nat → Prop} (f : Int) (u : Value) (V : VV) (outer n inner : Nat) (o nn ii : Int) (w : World) (ho : o = (outer : Int)) (hn : nn = (n : Int)) (hi : ii = (inner : Int)) (hA : IsV w ok u V) (oA : V.ok) (nA : V.nm) (hl : V.len = outer * n * inner) (hno : n ≤ 1048576) (him : inner ≤ 1048576) (hom : outer ≤ 1048576) (hT : TabAt w) :
  Calls Tryz.prog 9 #[.int .i64 f, .agg #[u], .int .i64 o, .int .i64 nn, .int .i64 ii] w fun e w' => ∃ u', e = .returned (.tuple #[.agg #[u'], .int .i64 (scE f V outer n inner)]) ∧ IsV w' (fun _ => True) u' (scV f V outer n inner) ∧ Below w.heap.size w w' := by
 subst ho hn hi
 exact scscan_calls f u V outer n inner w hA oA nA hl hno him hom hT
set_option maxHeartbeats 8000000 in
theorem awake14_calls (w : World) (hT : TabAt w) : Calls Tryz.prog 6 #[] w (Yes14 w) := by
 obtain ⟨W1, hW1⟩ : ∃ W1, W1 = w.alloc (.cells #[.float .f64 4607182418800017408, .float .f64 4611686018427387904, .float .f64 4613937818241073152] 42) := ⟨_, rfl⟩
 have HB := Lib.hid (show Below w.heap.size w W1 by rw [hW1]; exact below_new _ _)
 have HV := Lib.hid (show Slc W1 (fun _ => True) (.slice (some ⟨w.heap.size, 0, none⟩) 3 3) [4607182418800017408, 4611686018427387904, 4613937818241073152].length (f64s [4607182418800017408, 4611686018427387904, 4613937818241073152]) by
  rw [hW1]; exact (Slc.owned (World.ownsRow_lit (base := 0) (e := 42) (size := 1) w #[.float .f64 4607182418800017408, .float .f64 4611686018427387904, .float .f64 4613937818241073152] 3 (Nat.zero_le _) (by unfold maxLen; omega) rfl)).keep (Kept.refl _ _) (fun _ _ _ => trivial))
 have HT := Lib.hid (show TabAt W1 from fun j hj => keep_below HB.out _ _ (hT j hj))
 have hfold := hW1.symm
 clear hW1 hT
 go_enter Tryz.func6, Tryz.ntmps6
 go_wp2_with fail
 clear hfold
 refine (kept14_yes _ [4607182418800017408, 4611686018427387904, 4613937818241073152] 2 _ HV.out (by decide) aw14_fin HT.out).mono ?_
 rintro e W11 ⟨u, V, rfl, hu, hk, hB⟩
 replace HB := cb hB HB; replace HT := HT.go hB; replace HV := HV.go hB; have HU := Lib.hid (IsV.any hu)
 have HK := Lib.hid (show KepK [4607182418800017408, 4611686018427387904, 4613937818241073152] V from hk _ (congrArg some aw14_ze))
 have hsu := hu.store; clear hu hk; clear hB; clear HV
 obtain ⟨W12, hWn, hB, hNB⟩ := ahd1 W11 (u) 25
 replace HB := cb hB HB; replace HT := HT.go hB; replace HU := HU.go hB; have HA := Lib.hid hNB; clear hNB hB; have cHA0 := HA.out.2.1
 go_wp2_with fail
 clear hWn
 have HS := Lib.hid (aw14 HK.out)
 refine (scscan_at 1 _ V 1 3 1 _ _ _ _ rfl rfl rfl HU.out HK.out.1.1 HK.out.1.2.1 (by rw [HS.out.1]) (by decide) (by decide) (by decide) HT.out).mono ?_
 rintro e W13 ⟨ua, rfl, hua, hB⟩
 clear cHA0; replace HB := cb hB HB; replace HT := HT.go hB; replace HU := HU.go hB; replace HA := HA.go hB
 rw [HS.out.2.1.1]
 have HUA := Lib.hid hua; have hsua := hua.store; clear hua; clear hB
 obtain ⟨W14, hWn, hB, hNB⟩ := ahd1 W13 (ua) 25
 replace HB := cb hB HB; replace HT := HT.go hB; replace HU := HU.go hB; replace HA := HA.go hB; replace HUA := HUA.go hB; have HAA := Lib.hid hNB; clear hNB hB; have cHA0 := HA.out.2.1; have cHAA0 := HAA.out.2.1
 go_wp2_with fail
 clear hWn
 refine (scscan_at 2 _ V 1 3 1 _ _ _ _ rfl rfl rfl HU.out HK.out.1.1 HK.out.1.2.1 (by rw [HS.out.1]) (by decide) (by decide) (by decide) HT.out).mono ?_
 rintro e W15 ⟨ub, rfl, hub, hB⟩
 clear cHA0 cHAA0; replace HB := cb hB HB; replace HT := HT.go hB; replace HU := HU.go hB; replace HA := HA.go hB; replace HUA := HUA.go hB; replace HAA := HAA.go hB
 rw [HS.out.2.2.1]
 have HUB := Lib.hid hub; have hsub := hub.store; clear hub; clear hB
 obtain ⟨W16, hWn, hB, hNB⟩ := ahd1 W15 (ub) 25
 replace HB := cb hB HB; replace HT := HT.go hB; replace HU := HU.go hB; replace HA := HA.go hB; replace HUA := HUA.go hB; replace HAA := HAA.go hB; replace HUB := HUB.go hB; have HBB := Lib.hid hNB; clear hNB hB; have cHA0 := HA.out.2.1; have cHAA0 := HAA.out.2.1; have cHBB0 := HBB.out.2.1
 go_wp2_with fail
 clear hWn
 refine (vnums_calls _ (scV 1 V 1 3 1) _ HUA.out HS.out.2.1.2.2 HT.out).mono ?_
 rintro e W17 ⟨va, rfl, hva, hB⟩
 clear cHA0 cHAA0 cHBB0; replace HB := cb hB HB; replace HT := HT.go hB; replace HU := HU.go hB; replace HA := HA.go hB; replace HUA := HUA.go hB; replace HAA := HAA.go hB; replace HUB := HUB.go hB; replace HBB := HBB.go hB
 rw [HS.out.2.1.2.1] at hva
 have Hva := Lib.hid hva.any; clear hva; clear hB; have cHA0 := HA.out.2.1; have cHAA0 := HAA.out.2.1; have cHBB0 := HBB.out.2.1
 go_wp2_with fail
 obtain ⟨W18, hWn⟩ : ∃ xw9, W17.alloc (.cells #[.float .f64 4607182418800017408, .float .f64 4613937818241073152, .float .f64 4618441417868443648] 42) = xw9 := ⟨_, rfl⟩
 have hB : Below W17.heap.size W17 W18 := by rw [← hWn]; exact below_new _ _
 have hNB : Slc W18 (fun _ => True) (.slice (some ⟨W17.heap.size, 0, none⟩) 3 3) 3 (f64s [4607182418800017408, 4613937818241073152, 4618441417868443648]) := by
  rw [← hWn]; exact (Slc.owned (World.ownsRow_lit (base := 0) (e := 42) (size := 1) W17 #[.float .f64 4607182418800017408, .float .f64 4613937818241073152, .float .f64 4618441417868443648] 3 (Nat.zero_le _) (by unfold maxLen; omega) rfl)).keep (Kept.refl _ _) (fun _ _ _ => trivial)
 rw [hWn]; clear hWn; clear cHA0 cHAA0 cHBB0; replace HB := cb hB HB; replace HT := HT.go hB; replace HU := HU.go hB; replace HA := HA.go hB; replace HUA := HUA.go hB; replace HAA := HAA.go hB; replace HUB := HUB.go hB; replace HBB := HBB.go hB; replace Hva := Hva.go hB; have HLva := Lib.hid hNB; clear hNB hB
 refine (floats_same _ _ [4607182418800017408, 4613937818241073152, 4618441417868443648] _ Hva.out HLva.out (by decide) (by intro x hx; simp only [List.mem_cons, List.not_mem_nil, or_false] at hx; rcases hx with rfl | rfl | rfl <;> exact ⟨⟨by decide, by decide⟩, by decide +kernel⟩)).mono ?_
 rintro e W19 ⟨rfl, hB⟩
 replace HB := cb hB HB; replace HT := HT.go hB; replace HU := HU.go hB; replace HA := HA.go hB; replace HUA := HUA.go hB; replace HAA := HAA.go hB; replace HUB := HUB.go hB; replace HBB := HBB.go hB; replace Hva := Hva.go hB; replace HLva := HLva.go hB; clear hB; have cHA0 := HA.out.2.1; have cHAA0 := HAA.out.2.1; have cHBB0 := HBB.out.2.1
 go_wp2_with fail
 refine (vnums_calls _ (scV 2 V 1 3 1) _ HUB.out HS.out.2.2.2.2 HT.out).mono ?_
 rintro e W20 ⟨vb, rfl, hvb, hB⟩
 clear cHA0 cHAA0 cHBB0; replace HB := cb hB HB; replace HT := HT.go hB; replace HU := HU.go hB; replace HA := HA.go hB; replace HUA := HUA.go hB; replace HAA := HAA.go hB; replace HUB := HUB.go hB; replace HBB := HBB.go hB; replace Hva := Hva.go hB; replace HLva := HLva.go hB
 rw [HS.out.2.2.2.1] at hvb
 have Hvb := Lib.hid hvb.any; clear hvb; clear hB; have cHA0 := HA.out.2.1; have cHAA0 := HAA.out.2.1; have cHBB0 := HBB.out.2.1
 go_wp2_with fail
 obtain ⟨W21, hWn⟩ : ∃ xw9, W20.alloc (.cells #[.float .f64 4607182418800017408, .float .f64 13830554455654793216, .float .f64 4611686018427387904] 42) = xw9 := ⟨_, rfl⟩
 have hB : Below W20.heap.size W20 W21 := by rw [← hWn]; exact below_new _ _
 have hNB : Slc W21 (fun _ => True) (.slice (some ⟨W20.heap.size, 0, none⟩) 3 3) 3 (f64s [4607182418800017408, 13830554455654793216, 4611686018427387904]) := by
  rw [← hWn]; exact (Slc.owned (World.ownsRow_lit (base := 0) (e := 42) (size := 1) W20 #[.float .f64 4607182418800017408, .float .f64 13830554455654793216, .float .f64 4611686018427387904] 3 (Nat.zero_le _) (by unfold maxLen; omega) rfl)).keep (Kept.refl _ _) (fun _ _ _ => trivial)
 rw [hWn]; clear hWn; clear cHA0 cHAA0 cHBB0; replace HB := cb hB HB; replace HT := HT.go hB; replace HU := HU.go hB; replace HA := HA.go hB; replace HUA := HUA.go hB; replace HAA := HAA.go hB; replace HUB := HUB.go hB; replace HBB := HBB.go hB; replace Hva := Hva.go hB; replace HLva := HLva.go hB; replace Hvb := Hvb.go hB; have HLvb := Lib.hid hNB; clear hNB hB
 refine (floats_same _ _ [4607182418800017408, 13830554455654793216, 4611686018427387904] _ Hvb.out HLvb.out (by decide) (by intro x hx; simp only [List.mem_cons, List.not_mem_nil, or_false] at hx; rcases hx with rfl | rfl | rfl <;> exact ⟨⟨by decide, by decide⟩, by decide +kernel⟩)).mono ?_
 rintro e W22 ⟨rfl, hB⟩
 replace HB := cb hB HB; replace HT := HT.go hB; replace HU := HU.go hB; replace HA := HA.go hB; replace HUA := HUA.go hB; replace HAA := HAA.go hB; replace HUB := HUB.go hB; replace HBB := HBB.go hB; replace Hva := Hva.go hB; replace HLva := HLva.go hB; replace Hvb := Hvb.go hB; replace HLvb := HLvb.go hB; clear hB; have cHA0 := HA.out.2.1; have cHAA0 := HAA.out.2.1; have cHBB0 := HBB.out.2.1
 go_wp2_with fail
 go_ret
 exact ⟨rfl, HB.out⟩
end Go.Proofs.YtbacchbcanlciaaGreatDoor

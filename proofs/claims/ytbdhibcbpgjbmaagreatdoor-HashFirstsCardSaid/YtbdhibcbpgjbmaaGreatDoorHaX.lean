/- Layer 19, walked: where a search ends. Written by tools/gen_hax.py. -/
import Derived.Test.YtbdhibcbpgjbmaaGreatDoorHaW
namespace Go.Proofs.YtbdhibcbpgjbmaaGreatDoor
set_option maxRecDepth 100000
open Go.RowKit Fl
set_option linter.unusedVariables false

/-- A vector whose items have keys: numbers, of sizes that fit, its boxes good. -/
def HV19 (V : VV) : Prop := V.ok ∧ V.nm ∧ ∀ a ∈ V.boxs, gA 39 a
noncomputable def itH (V : VV) (i : Nat) : PI := itA (plA 39) V i
noncomputable def kH (x : PI) : Nat := kyI (kyP 39) x
theorem kH_lt (x : PI) : kH x < 18446744073709551616 := kyI_lt _ _
theorem back (m k d : Nat) (hd : d < m) : ((k + d) % m + m - k % m) % m = d := by
 have hm : 0 < m := by omega
 obtain ⟨r, hr⟩ : ∃ r, k % m = r := ⟨_, rfl⟩
 have hrl : r < m := by rw [← hr]; exact Nat.mod_lt _ hm
 rw [← Nat.mod_add_mod, hr]
 by_cases h : r + d < m
 ·rw [Nat.mod_eq_of_lt h, show r + d + m - r = d + m by omega, Nat.add_mod_right, Nat.mod_eq_of_lt hd]
 ·have e : (r + d) % m = r + d - m := by
   rw [Nat.mod_eq_sub_mod (by omega), Nat.mod_eq_of_lt (by omega)]
  rw [e, show r + d - m + m - r = d by omega, Nat.mod_eq_of_lt hd]
set_option maxHeartbeats 8000000 in
theorem hslot_calls {ok ok2 : Nat → Prop} {b0 tb sb : Nat} {u u2 : Value} {V V2 : VV} {S : List (Nat × Int)} {h : Nat} {P : List Nat} (k : Nat) (w : World) (t : TabM w b0 tb sb u S h) (hm : S.length ≤ 4000000)
  (tt : HTab (itH V) kH V.len P S) (hl : P.length < S.length) (hk1 : HV19 V) (hk2 : HV19 V2) (hk : k < V2.len) (hv : IsV w ok u V) (hv2 : IsV w ok2 u2 V2) :
  Calls Tryz.prog 68 #[.pointer (some ⟨tb, 0, none⟩), .int .u64 (kH (itH V2 k) : Int), .agg #[u2], .int .i64 (k : Int)] w fun e w' => ∃ r : Nat, e = .returned (.int .i64 (r : Int)) ∧ SlotRes (itH V) kH P S (itH V2 k) r ∧ Below w.heap.size w w' := by
 have hsx2 := hv2.store
 obtain ⟨m, hmm⟩ : ∃ m, S.length = m := ⟨_, rfl⟩
 have HM := Lib.hid hmm
 have HMP := Lib.hid (show 0 < m by rw [← hmm]; exact tt.pos)
 have HMS2 := Lib.hid (show 0 < S.length from tt.pos)
 have HMX := Lib.hid hm; have HLP := Lib.hid hl; have HTT := Lib.hid tt
 have HK := Lib.hid (And.intro hk1 (And.intro hk2 hk))
 obtain ⟨x, hx⟩ : ∃ x, itH V2 k = x := ⟨_, rfl⟩
 have HX := Lib.hid hx
 obtain ⟨key, hkey⟩ : ∃ key, kH x = key := ⟨_, rfl⟩
 have HKEY := Lib.hid hkey
 have HKL := Lib.hid (show key < 18446744073709551616 by rw [← hkey]; exact kH_lt x)
 rw [hx, hkey]
 obtain ⟨W1, hW1⟩ : ∃ W1, w.alloc (.cells #[u2] 36) = W1 := ⟨_, rfl⟩
 have HA2 := Lib.hid (show At1 W1 w.heap.size u2 by rw [← hW1]; exact At1.new _ _ _)
 have HB := Lib.hid (show Below w.heap.size w W1 by rw [← hW1]; exact below_new _ _)
 have HV := Lib.hid (hv.grow HB.out)
 have HV2 := Lib.hid (hv2.grow HB.out)
 have HTM := Lib.hid (t.below HB.out)
 clear hk1 hk2 hk hv hv2 t hm tt hl hx hkey
 go_enter Tryz.func68, Tryz.ntmps68
 go_wp2_with fail
 clear hW1
 refine (hfirst_calls key _ HTM.out HMS2.out HMX.out HKL.out).mono ?_
 rintro e W2 ⟨rfl, rfl⟩
 rw [HM.out]
 go_wp2_with fail
 go_loopw [9] (fun s wr => ∃ d r : Nat, s = .int .i64 (r : Int) ∧ d < m ∧ r = (key + d) % m ∧ (∀ e, e < d → Miss (itH V) P S x ((key + e) % m)) ∧ Below W1.heap.size W1 wr) (fun s _ => m - ((intOf s).toNat + m - key % m) % m)
 case atStart => exact ⟨0, key % m, rfl, HMP.out, rfl, fun e he => absurd he (by omega), Below.refl _ _⟩
 case round =>
  obtain ⟨d, r, rfl, hd, hr, hmiss, hBr⟩ := hrel
  have HBR := Lib.hid hBr; have HD := Lib.hid hd; have HR := Lib.hid hr; have HMI := Lib.hid hmiss
  have hrm : r < m := by rw [hr]; exact Nat.mod_lt _ HMP.out
  have HRM := Lib.hid hrm
  replace HTM := Lib.hid (HTM.out.below hBr)
  replace HV := Lib.hid (HV.out.grow hBr)
  replace HV2 := Lib.hid (HV2.out.grow hBr)
  replace HA2 := Lib.hid (HA2.out.below hBr)
  replace HB := Lib.hid (HB.out.trans (hBr.mono HB.out.size))
  have HT := Lib.hid (show At3 wr tb u (.slice (some ⟨sb, 0, none⟩) m m) (.int .i64 (h : Int)) by have := HTM.out.2.2.2.1; rw [HM.out] at this; exact this)
  have hget := sAt_get (S := S) (i := r) (by rw [HM.out]; exact hrm)
  obtain ⟨hc0, hc1⟩ := HTM.out.2.2.2.2.cell hget
  clear hd hr hmiss hBr
  obtain ⟨sl, hsl⟩ : ∃ sl, sAt S r = sl := ⟨_, rfl⟩
  have HSL := Lib.hid hsl
  rw [hsl] at hc0 hc1
  clear hget hsl
  by_cases hemp : sl.2 = -1
  ·rw [hemp] at hc1
   have HC := Lib.hid hc1; have HEM := Lib.hid hemp; clear hc0 hc1 hemp; have cHA20 := HA2.out.2.1; have cHT0 := HT.out.2.1; have cHT1 := HT.out.2.2.1; have cHT2 := HT.out.2.2.2.1; have cHC0 := HC.out
   go_wp2_with fail
   obtain ⟨W11, hWD, hB⟩ := drwn wr
   clear cHA20 cHT0 cHT1 cHT2 cHC0; replace HA2 := HA2.go hB; replace HT := HT.go hB
   replace HC := Lib.hid (keep_below hB _ _ HC.out)
   replace HB := cb hB HB; replace HBR := cb hB HBR; replace HV := HV.go hB; replace HV2 := HV2.go hB; replace HTM := HTM.go hB; clear hB
   refine rgn (S := fun w' => w'.cell? ⟨w.heap.size, 0, none⟩ = some (u2) ∧ w'.cell? ⟨tb, 0, none⟩ = some (u) ∧ w'.cell? ⟨tb, 1, none⟩ = some (.slice (some ⟨sb, 0, none⟩) m m) ∧ w'.cell? ⟨tb, 2, none⟩ = some (.int .i64 (h : Int)) ∧ w'.cell? ⟨sb, r * 2 + 1, none⟩ = some (.int .i64 (-1))) hWD ⟨HA2.out.2.1, HT.out.2.1, HT.out.2.2.1, HT.out.2.2.2.1, HC.out⟩ (fun hHeld => ?_)
   clear hWD; apply tk 0; apply tk 1; apply tk 2; apply tk 3; apply tk 4; apply tk 5; apply tk 6; apply tk 7; apply tk 8; apply tk 9
   refine wpAnyH_take (i := 10) (v := undef) rfl (by kernel_rfl) (by kernel_rfl) (by kernel_rfl) (fun _ _ _ h => h) (Or.inr ⟨by rfl, rfl⟩) (by assumption) ?_
   simp only [Act.put, List.getElem_toArray, List.getElem_cons_succ, List.getElem_cons_zero, List.setIfInBounds_toArray, List.set_cons_zero, List.set_cons_succ]
   refine wpAnyH_take (i := 11) (v := undef) rfl (by kernel_rfl) (by kernel_rfl) (by kernel_rfl) (fun _ _ _ h => h) (Or.inr ⟨by rfl, rfl⟩) (by assumption) ?_
   simp only [Act.put, List.getElem_toArray, List.getElem_cons_succ, List.getElem_cons_zero, List.setIfInBounds_toArray, List.set_cons_zero, List.set_cons_succ]
   refine wpAnyH_take (i := 12) (v := undef) rfl (by kernel_rfl) (by kernel_rfl) (by kernel_rfl) (fun _ _ _ h => h) (Or.inr ⟨by rfl, rfl⟩) (by assumption) ?_
   simp only [Act.put, List.getElem_toArray, List.getElem_cons_succ, List.getElem_cons_zero, List.setIfInBounds_toArray, List.set_cons_zero, List.set_cons_succ]
   refine wpAnyH_take (i := 13) (v := undef) rfl (by kernel_rfl) (by kernel_rfl) (by kernel_rfl) (fun _ _ _ h => h) (Or.inr ⟨by rfl, rfl⟩) (by assumption) ?_
   simp only [Act.put, List.getElem_toArray, List.getElem_cons_succ, List.getElem_cons_zero, List.setIfInBounds_toArray, List.set_cons_zero, List.set_cons_succ]
   refine wpAnyH_take (i := 14) (v := undef) rfl (by kernel_rfl) (by kernel_rfl) (by kernel_rfl) (fun _ _ _ h => h) (Or.inr ⟨by rfl, rfl⟩) (by assumption) ?_
   simp only [Act.put, List.getElem_toArray, List.getElem_cons_succ, List.getElem_cons_zero, List.setIfInBounds_toArray, List.set_cons_zero, List.set_cons_succ]
   refine wpAnyH_take (i := 15) (v := undef) rfl (by kernel_rfl) (by kernel_rfl) (by kernel_rfl) (fun _ _ _ h => h) (Or.inr ⟨by rfl, rfl⟩) (by assumption) ?_
   simp only [Act.put, List.getElem_toArray, List.getElem_cons_succ, List.getElem_cons_zero, List.setIfInBounds_toArray, List.set_cons_zero, List.set_cons_succ]
   refine wpAnyH_take (i := 16) (v := undef) rfl (by kernel_rfl) (by kernel_rfl) (by kernel_rfl) (fun _ _ _ h => h) (Or.inr ⟨by rfl, rfl⟩) (by assumption) ?_
   simp only [Act.put, List.getElem_toArray, List.getElem_cons_succ, List.getElem_cons_zero, List.setIfInBounds_toArray, List.set_cons_zero, List.set_cons_succ]
   refine wpAnyH_take (i := 17) (v := undef) rfl (by kernel_rfl) (by kernel_rfl) (by kernel_rfl) (fun _ _ _ h => h) (Or.inr ⟨by rfl, rfl⟩) (by assumption) ?_
   simp only [Act.put, List.getElem_toArray, List.getElem_cons_succ, List.getElem_cons_zero, List.setIfInBounds_toArray, List.set_cons_zero, List.set_cons_succ]
   refine wpAnyH_take (i := 18) (v := undef) rfl (by kernel_rfl) (by kernel_rfl) (by kernel_rfl) (fun _ _ _ h => h) (Or.inr ⟨by rfl, rfl⟩) (by assumption) ?_
   simp only [Act.put, List.getElem_toArray, List.getElem_cons_succ, List.getElem_cons_zero, List.setIfInBounds_toArray, List.set_cons_zero, List.set_cons_succ]
   refine wpAnyH_take (i := 19) (v := undef) rfl (by kernel_rfl) (by kernel_rfl) (by kernel_rfl) (fun _ _ _ h => h) (Or.inr ⟨by rfl, rfl⟩) (by assumption) ?_
   simp only [Act.put, List.getElem_toArray, List.getElem_cons_succ, List.getElem_cons_zero, List.setIfInBounds_toArray, List.set_cons_zero, List.set_cons_succ]
   refine wpAnyH_take (i := 20) (v := undef) rfl (by kernel_rfl) (by kernel_rfl) (by kernel_rfl) (fun _ _ _ h => h) (Or.inr ⟨by rfl, rfl⟩) (by assumption) ?_
   simp only [Act.put, List.getElem_toArray, List.getElem_cons_succ, List.getElem_cons_zero, List.setIfInBounds_toArray, List.set_cons_zero, List.set_cons_succ]
   refine wpAnyH_take (i := 21) (v := undef) rfl (by kernel_rfl) (by kernel_rfl) (by kernel_rfl) (fun _ _ _ h => h) (Or.inr ⟨by rfl, rfl⟩) (by assumption) ?_
   simp only [Act.put, List.getElem_toArray, List.getElem_cons_succ, List.getElem_cons_zero, List.setIfInBounds_toArray, List.set_cons_zero, List.set_cons_succ]
   refine wpAnyH_take (i := 22) (v := undef) rfl (by kernel_rfl) (by kernel_rfl) (by kernel_rfl) (fun _ _ _ h => h) (Or.inr ⟨by rfl, rfl⟩) (by assumption) ?_
   simp only [Act.put, List.getElem_toArray, List.getElem_cons_succ, List.getElem_cons_zero, List.setIfInBounds_toArray, List.set_cons_zero, List.set_cons_succ]
   apply tk 23
   refine wpAnyH_done (by kernel_rfl) ?_ _
   clear hHeld
   go_wp2_with fail
   go_ret
   refine ⟨r, rfl, ⟨by rw [HM.out]; exact HRM.out, Or.inl ⟨by rw [HSL.out]; exact HEM.out, ?_, d, by rw [HM.out]; exact HD.out, by rw [HKEY.out, HM.out]; exact HR.out, by rw [HKEY.out, HM.out]; exact HMI.out⟩⟩, HB.out⟩
   refine HTT.out.none (d := d) (by rw [HKEY.out, HM.out]; exact HMI.out) ?_
   rw [HKEY.out, HM.out, ← HR.out, HSL.out]
   exact HEM.out
  ·have HNE := Lib.hid hemp
   have HFULL := HTT.out.sl r (by rw [HM.out]; exact HRM.out)
   rw [HSL.out] at HFULL
   obtain ⟨p, hp, hsp⟩ := HFULL.resolve_left hemp
   have HP := Lib.hid hp
   have HPL := Lib.hid (HTT.out.lt p hp)
   subst hsp
   have hpm : ((p : Int) != -1) = true := by simp
   have HC := Lib.hid (And.intro hc0 hc1)
   clear hc0 hc1 hemp hp
   by_cases hpx : itH V p = x
   ·have HPX := Lib.hid hpx
    have HKE := Lib.hid (show kH (itH V p) = key by rw [hpx]; exact HKEY.out)
    clear hpx
    rw [HKE.out] at HC
    have cHA20 := HA2.out.2.1; have cHT0 := HT.out.2.1; have cHT1 := HT.out.2.2.1; have cHT2 := HT.out.2.2.2.1; have cHC0 := HC.out.1; have cHC1 := HC.out.2
    go_wp2_with fail
    obtain ⟨W11, hWD, hB⟩ := drwn wr
    clear cHA20 cHT0 cHT1 cHT2 cHC0 cHC1; replace HA2 := HA2.go hB; replace HT := HT.go hB
    replace HC := Lib.hid (And.intro (keep_below hB _ _ HC.out.1) (keep_below hB _ _ HC.out.2))
    replace HB := cb hB HB; replace HBR := cb hB HBR; replace HV := HV.go hB; replace HV2 := HV2.go hB; replace HTM := HTM.go hB; clear hB
    refine rgn (S := fun w' => w'.cell? ⟨w.heap.size, 0, none⟩ = some (u2) ∧ w'.cell? ⟨tb, 0, none⟩ = some (u) ∧ w'.cell? ⟨tb, 1, none⟩ = some (.slice (some ⟨sb, 0, none⟩) m m) ∧ w'.cell? ⟨tb, 2, none⟩ = some (.int .i64 (h : Int)) ∧ w'.cell? ⟨sb, r * 2, none⟩ = some (.int .u64 (key : Int)) ∧ w'.cell? ⟨sb, r * 2 + 1, none⟩ = some (.int .i64 (p : Int))) hWD ⟨HA2.out.2.1, HT.out.2.1, HT.out.2.2.1, HT.out.2.2.2.1, HC.out.1, HC.out.2⟩ (fun hHeld => ?_)
    clear hWD; apply tk 0; apply tk 1; apply tk 2; apply tk 3; apply tk 4; apply tk 5; apply tk 6; apply tk 7; apply tk 8; apply tk 9; apply tk 10; apply tk 11; apply tk 12; apply tk 13; apply tk 14; apply tk 15; apply tk 16; apply tk 17; apply tk 18; apply tk 19; apply tk 20
    apply rdy 21; intro K hK; clear hHeld; go_simp
    refine (hholds_yes key p k _ HTM.out ⟨HK.out.1.1, HK.out.1.2.1, HK.out.1.2.2, HPL.out⟩ ⟨HK.out.2.1.1, HK.out.2.1.2.1, HK.out.2.1.2.2, HK.out.2.2⟩ HV.out HV2.out).mono ?_
    rintro e W12 ⟨rfl, hB⟩
    replace HA2 := HA2.go hB; replace HT := HT.go hB
    replace HC := Lib.hid (And.intro (keep_below hB _ _ HC.out.1) (keep_below hB _ _ HC.out.2))
    replace HB := cb hB HB; replace HBR := cb hB HBR; replace HV := HV.go hB; replace HV2 := HV2.go hB; replace HTM := HTM.go hB; clear hB
    rw [show iq (itA (plA 39) V p) (itA (plA 39) V2 k) = true from iq_yes (by have := HPX.out; rw [← HX.out] at this; exact this)]
    try go_simp
    refine hK.out _ _ ⟨HA2.out.2.1, HT.out.2.1, HT.out.2.2.1, HT.out.2.2.2.1, HC.out.1, HC.out.2⟩ (fun hHeld => ?_)
    clear hK K; apply tk 22; apply tk 23
    refine wpAnyH_done (by kernel_rfl) ?_ _
    clear hHeld
    go_wp2_with fail
    go_ret
    exact ⟨r, rfl, ⟨by rw [HM.out]; exact HRM.out, Or.inr ⟨p, HP.out, HSL.out, HPX.out⟩⟩, HB.out⟩
   ·have HPX := Lib.hid hpx
    have HMS := Lib.hid (show Miss (itH V) P S x ((key + d) % m) by
     rw [← HR.out]
     refine ⟨by rw [HSL.out]; exact HNE.out, fun q hq e => ?_⟩
     rw [HSL.out] at e
     have : (p : Int) = (q : Int) := e
     have : p = q := by omega
     rw [← this]; exact HPX.out)
    have HMD := Lib.hid (show ∀ e, e < d + 1 → Miss (itH V) P S x ((key + e) % m) by
     intro e he
     by_cases h0 : e = d
     ·rw [h0]; exact HMS.out
     ·exact HMI.out e (by omega))
    have HD1 := Lib.hid (show d + 1 < m by
     have := HTT.out.bound HLP.out (x := x) (k := key) (d := d + 1) (by rw [HM.out]; exact HMD.out)
     rw [HM.out] at this; exact this)
    clear hpx
    by_cases hke : kH (itH V p) = key
    ·rw [hke] at HC
     clear hke
     have HIQ := Lib.hid (show iq (itA (plA 39) V p) (itA (plA 39) V2 k) = false from iq_no (by have := HPX.out; rw [← HX.out] at this; exact this))
     have cHA20 := HA2.out.2.1; have cHT0 := HT.out.2.1; have cHT1 := HT.out.2.2.1; have cHT2 := HT.out.2.2.2.1; have cHC0 := HC.out.1; have cHC1 := HC.out.2
     go_wp2_with fail
     obtain ⟨W11, hWD, hB⟩ := drwn wr
     clear cHA20 cHT0 cHT1 cHT2 cHC0 cHC1; replace HA2 := HA2.go hB; replace HT := HT.go hB
     replace HC := Lib.hid (And.intro (keep_below hB _ _ HC.out.1) (keep_below hB _ _ HC.out.2))
     replace HB := cb hB HB; replace HBR := cb hB HBR; replace HV := HV.go hB; replace HV2 := HV2.go hB; replace HTM := HTM.go hB; clear hB
     refine rgn (S := fun w' => w'.cell? ⟨w.heap.size, 0, none⟩ = some (u2) ∧ w'.cell? ⟨tb, 0, none⟩ = some (u) ∧ w'.cell? ⟨tb, 1, none⟩ = some (.slice (some ⟨sb, 0, none⟩) m m) ∧ w'.cell? ⟨tb, 2, none⟩ = some (.int .i64 (h : Int)) ∧ w'.cell? ⟨sb, r * 2, none⟩ = some (.int .u64 (key : Int)) ∧ w'.cell? ⟨sb, r * 2 + 1, none⟩ = some (.int .i64 (p : Int))) hWD ⟨HA2.out.2.1, HT.out.2.1, HT.out.2.2.1, HT.out.2.2.2.1, HC.out.1, HC.out.2⟩ (fun hHeld => ?_)
     clear hWD; apply tk 0; apply tk 1; apply tk 2; apply tk 3; apply tk 4; apply tk 5; apply tk 6; apply tk 7; apply tk 8; apply tk 9; apply tk 10; apply tk 11; apply tk 12; apply tk 13; apply tk 14; apply tk 15; apply tk 16; apply tk 17; apply tk 18; apply tk 19; apply tk 20
     apply rdy 21; intro K hK; clear hHeld; go_simp
     refine (hholds_yes key p k _ HTM.out ⟨HK.out.1.1, HK.out.1.2.1, HK.out.1.2.2, HPL.out⟩ ⟨HK.out.2.1.1, HK.out.2.1.2.1, HK.out.2.1.2.2, HK.out.2.2⟩ HV.out HV2.out).mono ?_
     rintro e W12 ⟨rfl, hB⟩
     replace HA2 := HA2.go hB; replace HT := HT.go hB
     replace HC := Lib.hid (And.intro (keep_below hB _ _ HC.out.1) (keep_below hB _ _ HC.out.2))
     replace HB := cb hB HB; replace HBR := cb hB HBR; replace HV := HV.go hB; replace HV2 := HV2.go hB; replace HTM := HTM.go hB; clear hB; rw [HIQ.out]
     try go_simp
     refine hK.out _ _ ⟨HA2.out.2.1, HT.out.2.1, HT.out.2.2.1, HT.out.2.2.2.1, HC.out.1, HC.out.2⟩ (fun hHeld => ?_)
     clear hK K; apply tk 22; apply tk 23
     refine wpAnyH_done (by kernel_rfl) ?_ _
     clear hHeld
     go_wp2_with fail
     refine (hnext_calls r _ HTM.out HMS2.out HMX.out (by rw [HM.out]; exact HRM.out)).mono ?_
     rintro e W40 ⟨rfl, rfl⟩
     rw [HM.out]
     go_wp2_with fail
     go_roundw
     case rel => exact ⟨d + 1, (r + 1) % m, rfl, HD1.out, by rw [HR.out, Nat.mod_add_mod]; rfl, HMD.out, HBR.out⟩
     case measure =>
      have e1 := back m key d HD.out
      have e2 := back m key (d + 1) HD1.out
      have h1 := HD1.out
      simp only [intOf]
      rw [show ((r : Int) + 1) % (m : Int) = (((r + 1) % m : Nat) : Int) by rw [Int.natCast_emod]; rfl, Int.toNat_natCast, show (r + 1) % m = (key + (d + 1)) % m by rw [HR.out, Nat.mod_add_mod]; rfl, show ((r : Nat) : Int).toNat = (key + d) % m by rw [Int.toNat_natCast, HR.out], e1, e2]
      omega
    ·obtain ⟨key2, hk2⟩ : ∃ key2, kH (itH V p) = key2 := ⟨_, rfl⟩
     have HK2 := Lib.hid hke
     rw [hk2] at HK2 HC
     clear hk2 hke; have cHA20 := HA2.out.2.1; have cHT0 := HT.out.2.1; have cHT1 := HT.out.2.2.1; have cHT2 := HT.out.2.2.2.1; have cHC0 := HC.out.1; have cHC1 := HC.out.2
     go_wp2_with fail
     obtain ⟨W11, hWD, hB⟩ := drwn wr
     clear cHA20 cHT0 cHT1 cHT2 cHC0 cHC1; replace HA2 := HA2.go hB; replace HT := HT.go hB
     replace HC := Lib.hid (And.intro (keep_below hB _ _ HC.out.1) (keep_below hB _ _ HC.out.2))
     replace HB := cb hB HB; replace HBR := cb hB HBR; replace HV := HV.go hB; replace HV2 := HV2.go hB; replace HTM := HTM.go hB; clear hB
     refine rgn (S := fun w' => w'.cell? ⟨w.heap.size, 0, none⟩ = some (u2) ∧ w'.cell? ⟨tb, 0, none⟩ = some (u) ∧ w'.cell? ⟨tb, 1, none⟩ = some (.slice (some ⟨sb, 0, none⟩) m m) ∧ w'.cell? ⟨tb, 2, none⟩ = some (.int .i64 (h : Int)) ∧ w'.cell? ⟨sb, r * 2, none⟩ = some (.int .u64 (key2 : Int)) ∧ w'.cell? ⟨sb, r * 2 + 1, none⟩ = some (.int .i64 (p : Int))) hWD ⟨HA2.out.2.1, HT.out.2.1, HT.out.2.2.1, HT.out.2.2.2.1, HC.out.1, HC.out.2⟩ (fun hHeld => ?_)
     clear hWD; apply tk 0; apply tk 1; apply tk 2; apply tk 3; apply tk 4; apply tk 5; apply tk 6; apply tk 7; apply tk 8; apply tk 9; apply tk 10; apply tk 11; apply tk 12; apply tk 13; apply tk 14; apply tk 15; apply tk 16; apply tk 17; apply tk 18; apply tk 19; apply tk 20
     apply rdy 21; intro K hK; clear hHeld; go_simp
     refine (hholds_no key key2 k _ _ HTM.out HK2.out HV2.out).mono ?_
     rintro e W12 ⟨rfl, hB⟩
     replace HA2 := HA2.go hB; replace HT := HT.go hB
     replace HC := Lib.hid (And.intro (keep_below hB _ _ HC.out.1) (keep_below hB _ _ HC.out.2))
     replace HB := cb hB HB; replace HBR := cb hB HBR; replace HV := HV.go hB; replace HV2 := HV2.go hB; replace HTM := HTM.go hB; clear hB
     try go_simp
     refine hK.out _ _ ⟨HA2.out.2.1, HT.out.2.1, HT.out.2.2.1, HT.out.2.2.2.1, HC.out.1, HC.out.2⟩ (fun hHeld => ?_)
     clear hK K; apply tk 22; apply tk 23
     refine wpAnyH_done (by kernel_rfl) ?_ _
     clear hHeld
     go_wp2_with fail
     refine (hnext_calls r _ HTM.out HMS2.out HMX.out (by rw [HM.out]; exact HRM.out)).mono ?_
     rintro e W40 ⟨rfl, rfl⟩
     rw [HM.out]
     go_wp2_with fail
     go_roundw
     case rel => exact ⟨d + 1, (r + 1) % m, rfl, HD1.out, by rw [HR.out, Nat.mod_add_mod]; rfl, HMD.out, HBR.out⟩
     case measure =>
      have e1 := back m key d HD.out
      have e2 := back m key (d + 1) HD1.out
      have h1 := HD1.out
      simp only [intOf]
      rw [show ((r : Int) + 1) % (m : Int) = (((r + 1) % m : Nat) : Int) by rw [Int.natCast_emod]; rfl, Int.toNat_natCast, show (r + 1) % m = (key + (d + 1)) % m by rw [HR.out, Nat.mod_add_mod]; rfl, show ((r : Nat) : Int).toNat = (key + d) % m by rw [Int.toNat_natCast, HR.out], e1, e2]
      omega
end Go.Proofs.YtbdhibcbpgjbmaaGreatDoor

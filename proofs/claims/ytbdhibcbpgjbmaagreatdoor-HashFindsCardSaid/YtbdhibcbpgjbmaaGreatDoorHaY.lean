/- Layer 19, walked: Put, Get, New. Written by tools/gen_hay.py. -/
import Derived.Test.YtbdhibcbpgjbmaaGreatDoorHaX
namespace Go.Proofs.YtbdhibcbpgjbmaaGreatDoor
set_option maxRecDepth 100000
open Go.RowKit Fl
set_option linter.unusedVariables false

theorem hkey39 {ok : Nat → Prop} (u : Value) (V : VV) (k : Nat) (w : World) (h : HV19 V) (hk : k < V.len) (hv : IsV w ok u V) :
  Calls Tryz.prog 24 #[.agg #[u], .int .i64 (k : Int)] w fun e w' => e = .returned (.int .u64 (kH (itH V k) : Int)) ∧ Below w.heap.size w w' :=
 hkey_at 39 (hkeyarr_calls 39) u V k w h.1 h.2.1 h.2.2 hk hv
/-- All blocks but two are as they were. -/
def FrT (tb sb : Nat) (w w' : World) : Prop := ∀ k, k < w.heap.size → k ≠ tb → k ≠ sb → w'.heap[k]? = w.heap[k]?
theorem FrT.of {tb sb : Nat} {w w' : World} (h : Below w.heap.size w w') : FrT tb sb w w' := fun k hk _ _ => h.block k hk
/-- What Put turns. -/
def PutRes (V : VV) (P : List Nat) (S : List (Nat × Int)) (h b0 tb sb : Nat) (u : Value) (i r : Nat) (w' : World) : Prop :=
 (r = i ∧ (∀ p ∈ P, itH V p ≠ itH V i) ∧ ∃ S', S'.length = S.length ∧ TabM w' b0 tb sb u S' (h + 1) ∧ HTab (itH V) kH V.len (P ++ [i]) S') ∨ (r ∈ P ∧ itH V r = itH V i ∧ TabM w' b0 tb sb u S h)

set_option maxHeartbeats 8000000 in
theorem hput_calls {ok : Nat → Prop} {b0 tb sb : Nat} {u : Value} {V : VV} {S : List (Nat × Int)} {h : Nat} {P : List Nat} (i : Nat) (w : World) (t : TabM w b0 tb sb u S h) (hm : S.length ≤ 4000000)
  (tt : HTab (itH V) kH V.len P S) (hl : P.length < S.length) (hh : (∀ p ∈ P, itH V p ≠ itH V i) → 2 * (h + 1) ≤ S.length) (hk1 : HV19 V) (hi : i < V.len) (hv : IsV w ok u V) (hb0 : b0 ≤ w.heap.size) :
  Calls Tryz.prog 34 #[.pointer (some ⟨tb, 0, none⟩), .int .i64 (i : Int)] w fun e w' => ∃ r : Nat, e = .returned (.int .i64 (r : Int)) ∧ PutRes V P S h b0 tb sb u i r w' ∧ FrT tb sb w w' ∧ Below b0 w w' := by
 obtain ⟨m, hmm⟩ : ∃ m, S.length = m := ⟨_, rfl⟩
 have HM := Lib.hid hmm
 have HMS := Lib.hid (show 0 < S.length from tt.pos)
 have HMX := Lib.hid hm; have HLP := Lib.hid hl; have HTT := Lib.hid tt; have HHH := Lib.hid hh
 have HK := Lib.hid (And.intro hk1 hi)
 have HB0 := Lib.hid hb0; have HTM := Lib.hid t; have HV := Lib.hid hv
 have HT := Lib.hid (show At3 w tb u (.slice (some ⟨sb, 0, none⟩) m m) (.int .i64 (h : Int)) by have := t.2.2.2.1; rw [hmm] at this; exact this)
 have HB := Lib.hid (Below.refl w.heap.size w)
 clear hm hl tt hh hk1 hi hb0 t hv hmm
 go_enter Tryz.func34, Tryz.ntmps34
 go_wp2_with fail
 refine (hmade_calls _ HTM.out HMS.out).mono ?_
 rintro e W11 ⟨rfl, hB⟩
 replace HT := HT.go hB; replace HB := cb hB HB; replace HV := HV.go hB; replace HTM := HTM.go hB; clear hB; have cHT0 := HT.out.2.1; have cHT1 := HT.out.2.2.1; have cHT2 := HT.out.2.2.2.1
 go_wp2_with fail
 refine (hhas1_yes _ _ _ _ HV.out HK.out.2).mono ?_
 rintro e W12 ⟨rfl, hB⟩
 clear cHT0 cHT1 cHT2; replace HT := HT.go hB; replace HB := cb hB HB; replace HV := HV.go hB; replace HTM := HTM.go hB; clear hB; have cHT0 := HT.out.2.1; have cHT1 := HT.out.2.2.1; have cHT2 := HT.out.2.2.2.1
 go_wp2_with fail
 refine (hkey39 _ _ _ _ HK.out.1 HK.out.2 HV.out).mono ?_
 rintro e W13 ⟨rfl, hB⟩
 clear cHT0 cHT1 cHT2; replace HT := HT.go hB; replace HB := cb hB HB; replace HV := HV.go hB; replace HTM := HTM.go hB; clear hB; have cHT0 := HT.out.2.1; have cHT1 := HT.out.2.2.1; have cHT2 := HT.out.2.2.2.1
 go_wp2_with fail
 refine (hslot_calls (V2 := V) i _ HTM.out HMX.out HTT.out HLP.out HK.out.1 HK.out.1 HK.out.2 HV.out HV.out).mono ?_
 rintro e W14 ⟨r, rfl, hres, hB⟩
 clear cHT0 cHT1 cHT2; replace HT := HT.go hB; replace HB := cb hB HB; replace HV := HV.go hB; replace HTM := HTM.go hB; clear hB; have HRES := Lib.hid hres
 have HRM := Lib.hid (show r < m by rw [← HM.out]; exact hres.1)
 have hrm := HRM.out
 obtain ⟨sl, hsl⟩ : ∃ sl, sAt S r = sl := ⟨_, rfl⟩
 have HSL := Lib.hid hsl
 obtain ⟨hc0, hc1⟩ := HTM.out.2.2.2.2.cell (sAt_get hres.1)
 rw [hsl] at hc0 hc1
 clear hsl hres
 rcases Classical.em (sl.2 = -1) with hemp | hemp
 ·have cHT0 := HT.out.2.1; have cHT1 := HT.out.2.2.1; have cHT2 := HT.out.2.2.2.1; have zHT0 := HT.out.2.2.2.2 0; have zHT1 := HT.out.2.2.2.2 1; have zHT2 := HT.out.2.2.2.2 2
  rw [hemp] at hc1
  have HEM := Lib.hid (show (sAt S r).2 = -1 by rw [HSL.out]; exact hemp)
  have z0 := HTM.out.2.2.2.2.free (r * 2)
  have z1 := HTM.out.2.2.2.2.free (r * 2 + 1)
  have ne1 : (tb = sb) = False := eq_false HTM.out.2.2.1
  have ne2 : (sb = tb) = False := eq_false (fun e => HTM.out.2.2.1 e.symm)
  have HNO := Lib.hid (show ∀ p ∈ P, itH V p ≠ itH V i by
   rcases HRES.out.2 with h1 | ⟨p, hp, h1, _⟩
   ·exact h1.2.1
   ·have := HEM.out; rw [h1] at this; simp at this)
  have HH2 := Lib.hid (HHH.out HNO.out)
  have hw1 : IntKind.i64.wrap ((h : Int) + 1) = (h : Int) + 1 := by rw [IntWalk.i64_in _ (by have := HH2.out; have := HMX.out; omega)]
  obtain ⟨W9, hW9⟩ : ∃ W9, (((W14).setCell ⟨sb, r * 2, none⟩ (.int .u64 (kH (itH V i) : Int))).setCell ⟨sb, r * 2 + 1, none⟩ (.int .i64 (i : Int))).setCell ⟨tb, 2, none⟩ (.int .i64 ((h : Int) + 1)) = W9 := ⟨_, rfl⟩
  have HR2 := Lib.hid (show RowH W9 sb (S.set r (kH (itH V i), (i : Int))) by
   rw [← hW9]
   exact (HTM.out.2.2.2.2.set r (kH (itH V i), (i : Int)) (by rw [HM.out]; exact HRM.out)).kept (grown_setCell _ _ _) (fun e => HTM.out.2.2.1 e.symm))
  have HT2 := Lib.hid (show At3 W9 tb u (.slice (some ⟨sb, 0, none⟩) (S.set r (kH (itH V i), (i : Int))).length (S.set r (kH (itH V i), (i : Int))).length) (.int .i64 ((h + 1 : Nat) : Int)) by
   rw [← hW9, List.length_set, show ((h + 1 : Nat) : Int) = (h : Int) + 1 from rfl]
   exact ((HTM.out.2.2.2.1.other _ HTM.out.2.2.1 _).other _ HTM.out.2.2.1 _).set2 _)
  have HTM2 := Lib.hid (show TabM W9 b0 tb sb u (S.set r (kH (itH V i), (i : Int))) (h + 1) from ⟨HTM.out.1, HTM.out.2.1, HTM.out.2.2.1, HT2.out, HR2.out⟩)
  have HB9 := Lib.hid (show Below b0 w W9 by
   rw [← hW9]
   exact (((HB.out.mono HB0.out).setCell HTM.out.2.1 _).setCell HTM.out.2.1 _).setCell HTM.out.1 _)
  have HFR := Lib.hid (show FrT tb sb w W9 by
   intro k hk h1 h2
   rw [← hW9, Below.heap_setCell _ _ _ _ h1, Below.heap_setCell _ _ _ _ h2, Below.heap_setCell _ _ _ _ h2]
   exact HB.out.block k hk)
  have HTT2 := Lib.hid (HTT.out.put HK.out.2 HRES.out HEM.out)
  clear hemp
  go_wp2_with fail
  refine (hroom_calls _ HTM2.out (by rw [List.length_set]; exact HMX.out) (by rw [List.length_set]; exact HH2.out)).mono ?_
  rintro e W10 ⟨rfl, hB⟩
  have HB10 := Lib.hid (HB9.out.trans (hB.mono (Nat.le_trans HB0.out HB9.out.size)))
  have HTM3 := Lib.hid (HTM2.out.below hB)
  have HFR2 := Lib.hid (show FrT tb sb w W10 from fun k hk h1 h2 => (hB.block k (Nat.lt_of_lt_of_le hk HB9.out.size)).trans (HFR.out k hk h1 h2))
  clear hB; clear cHT0 cHT1 cHT2 zHT0 zHT1 zHT2
  go_wp2_with fail
  go_ret
  exact ⟨i, rfl, Or.inl ⟨rfl, HNO.out, _, List.length_set, HTM3.out, HTT2.out⟩, HFR2.out, HB10.out⟩
 ·have cHT0 := HT.out.2.1; have cHT1 := HT.out.2.2.1; have cHT2 := HT.out.2.2.2.1
  obtain ⟨p, hp, hsp, hpx⟩ : ∃ p ∈ P, sl = (kH (itH V p), (p : Int)) ∧ itH V p = itH V i := by
   rcases HRES.out.2 with h1 | ⟨p, hp, h1, h2⟩
   ·rw [HSL.out] at h1; exact absurd h1.1 hemp
   ·rw [HSL.out] at h1; exact ⟨p, hp, h1, h2⟩
  have HP := Lib.hid (And.intro hp hpx)
  subst hsp
  have hpm : ((p : Int) == -1) = false := by simp
  clear hemp hp hpx
  go_wp2_with fail
  go_ret
  exact ⟨p, rfl, Or.inr ⟨HP.out.1, HP.out.2, HTM.out⟩, FrT.of HB.out, HB.out.mono HB0.out⟩

set_option maxHeartbeats 8000000 in
theorem hget_calls {ok ok2 : Nat → Prop} {b0 tb sb : Nat} {u u2 : Value} {V V2 : VV} {S : List (Nat × Int)} {h : Nat} {P : List Nat} (k : Nat) (w : World) (t : TabM w b0 tb sb u S h) (hm : S.length ≤ 4000000)
  (tt : HTab (itH V) kH V.len P S) (hl : P.length < S.length) (hk1 : HV19 V) (hk2 : HV19 V2) (hk : k < V2.len) (hv : IsV w ok u V) (hv2 : IsV w ok2 u2 V2) :
  Calls Tryz.prog 64 #[.pointer (some ⟨tb, 0, none⟩), .agg #[u2], .int .i64 (k : Int)] w fun e w' => ∃ r : Int, e = .returned (.int .i64 r) ∧ ((r = -1 ∧ ∀ p ∈ P, itH V p ≠ itH V2 k) ∨ ∃ p ∈ P, r = (p : Int) ∧ itH V p = itH V2 k) ∧ Below w.heap.size w w' := by
 have hsx2 := hv2.store
 obtain ⟨m, hmm⟩ : ∃ m, S.length = m := ⟨_, rfl⟩
 have HM := Lib.hid hmm
 have HMS := Lib.hid (show 0 < S.length from tt.pos)
 have HMX := Lib.hid hm; have HLP := Lib.hid hl; have HTT := Lib.hid tt
 have HK := Lib.hid (And.intro hk1 (And.intro hk2 hk))
 obtain ⟨W1, hW1⟩ : ∃ W1, w.alloc (.cells #[u2] 36) = W1 := ⟨_, rfl⟩
 have HA2 := Lib.hid (show At1 W1 w.heap.size u2 by rw [← hW1]; exact At1.new _ _ _)
 have HB := Lib.hid (show Below w.heap.size w W1 by rw [← hW1]; exact below_new _ _)
 have HV := Lib.hid (hv.grow HB.out)
 have HV2 := Lib.hid (hv2.grow HB.out)
 have HTM := Lib.hid (t.below HB.out)
 have HT := Lib.hid (show At3 W1 tb u (.slice (some ⟨sb, 0, none⟩) m m) (.int .i64 (h : Int)) by have := HTM.out.2.2.2.1; rw [hmm] at this; exact this)
 clear hk1 hk2 hk hv hv2 t hm tt hl hmm
 go_enter Tryz.func64, Tryz.ntmps64
 go_wp2_with fail
 clear hW1
 refine (hmade_calls _ HTM.out HMS.out).mono ?_
 rintro e W11 ⟨rfl, hB⟩
 replace HA2 := HA2.go hB; replace HT := HT.go hB; replace HB := cb hB HB; replace HV := HV.go hB; replace HV2 := HV2.go hB; replace HTM := HTM.go hB; clear hB; have cHA20 := HA2.out.2.1; have cHT0 := HT.out.2.1; have cHT1 := HT.out.2.2.1; have cHT2 := HT.out.2.2.2.1
 go_wp2_with fail
 obtain ⟨W12, hWD, hB⟩ := drwn W11
 clear cHA20 cHT0 cHT1 cHT2; replace HA2 := HA2.go hB; replace HT := HT.go hB; replace HB := cb hB HB; replace HV := HV.go hB; replace HV2 := HV2.go hB; replace HTM := HTM.go hB; clear hB
 refine rgn (S := fun w' => w'.cell? ⟨w.heap.size, 0, none⟩ = some (u2) ∧ w'.cell? ⟨tb, 0, none⟩ = some (u) ∧ w'.cell? ⟨tb, 1, none⟩ = some (.slice (some ⟨sb, 0, none⟩) m m) ∧ w'.cell? ⟨tb, 2, none⟩ = some (.int .i64 (h : Int)) ∧ (∀ j : Nat, j < m → w'.cell? ⟨sb, j * 2 + 1, none⟩ = some (.int .i64 (sAt S j).2))) hWD ⟨HA2.out.2.1, HT.out.2.1, HT.out.2.2.1, HT.out.2.2.2.1, fun j hj => (HTM.out.2.2.2.2.cell (sAt_get (by rw [HM.out]; exact hj))).2⟩ (fun hHeld => ?_)
 clear hWD; apply tk 0; apply tk 1; apply tk 2; apply tk 3; apply tk 4; apply tk 5; apply tk 6; apply tk 8; apply tk 9
 apply rdy 7; intro K hK; clear hHeld; go_simp
 refine (hkey39 _ _ _ _ HK.out.2.1 HK.out.2.2 HV2.out).mono ?_
 rintro e W13 ⟨rfl, hB⟩
 replace HA2 := HA2.go hB; replace HT := HT.go hB; replace HB := cb hB HB; replace HV := HV.go hB; replace HV2 := HV2.go hB; replace HTM := HTM.go hB; clear hB
 try go_simp
 refine hK.out _ _ ⟨HA2.out.2.1, HT.out.2.1, HT.out.2.2.1, HT.out.2.2.2.1, fun j hj => (HTM.out.2.2.2.2.cell (sAt_get (by rw [HM.out]; exact hj))).2⟩ (fun hHeld => ?_)
 clear hK K
 apply rdy 10; intro K hK; clear hHeld; go_simp
 refine (hslot_calls (V2 := V2) k _ HTM.out HMX.out HTT.out HLP.out HK.out.1 HK.out.2.1 HK.out.2.2 HV.out HV2.out).mono ?_
 rintro e W14 ⟨r, rfl, hres, hB⟩
 replace HA2 := HA2.go hB; replace HT := HT.go hB; replace HB := cb hB HB; replace HV := HV.go hB; replace HV2 := HV2.go hB; replace HTM := HTM.go hB; clear hB; have HRES := Lib.hid hres
 have HRM := Lib.hid (show r < m by rw [← HM.out]; exact hres.1)
 have hrm := HRM.out; clear hres
 try go_simp
 refine hK.out _ _ ⟨HA2.out.2.1, HT.out.2.1, HT.out.2.2.1, HT.out.2.2.2.1, fun j hj => (HTM.out.2.2.2.2.cell (sAt_get (by rw [HM.out]; exact hj))).2⟩ (fun hHeld => ?_)
 clear hK K; apply tk 11; apply tk 12; apply tk 13; apply tk 14
 refine wpAnyH_done (by kernel_rfl) ?_ _
 clear hHeld
 go_wp2_with fail
 go_ret
 refine ⟨(sAt S r).2, rfl, ?_, HB.out⟩
 rcases HRES.out.2 with h1 | ⟨p, hp, h1, h2⟩
 ·exact Or.inl ⟨h1.1, h1.2.1⟩
 ·exact Or.inr ⟨p, hp, by rw [h1], h2⟩

set_option maxHeartbeats 8000000 in
theorem hnew_calls {ok : Nat → Prop} (u : Value) (V : VV) (w : World) (hm : V.len ≤ 1048576) (hv : IsV w ok u V) :
  Calls Tryz.prog 33 #[.agg #[u], .int .i64 (V.len : Int)] w fun e w' => ∃ tb sb, e = .returned (.pointer (some ⟨tb, 0, none⟩)) ∧ TabM w' w.heap.size tb sb u (List.replicate (2 * max V.len 1) (0, -1)) 0 ∧ Below w.heap.size w w' := by
 have hsx := hv.store
 obtain ⟨W1, hW1⟩ : ∃ W1, w.alloc (.cells #[u] 36) = W1 := ⟨_, rfl⟩
 have HA := Lib.hid (show At1 W1 w.heap.size u by rw [← hW1]; exact At1.new _ _ _)
 have HB := Lib.hid (show Below w.heap.size w W1 by rw [← hW1]; exact below_new _ _)
 have HV := Lib.hid (hv.grow HB.out)
 obtain ⟨n, hn⟩ : ∃ n, V.len = n := ⟨_, rfl⟩
 have HN := Lib.hid hn
 rw [hn] at hm ⊢
 have hmx : max (n : Int) 0 = (n : Int) := by omega
 have hmi : min (n : Int) (n : Int) = (n : Int) := by omega
 obtain ⟨q, hq⟩ : ∃ q, max n 1 = q := ⟨_, rfl⟩
 have hmq : (if ((n : Int) < 1) then (1 : Int) else (n : Int)) = (q : Int) := by split <;> omega
 have hql : q ≤ 1048576 := by omega
 have hw2 : IntKind.i64.wrap (2 * (q : Int)) = 2 * (q : Int) := by rw [IntWalk.i64_in _ (by omega)]
 rw [hq]; have HQ := Lib.hid hql; have cHA0 := HA.out.2.1; clear hv hn hm hq
 go_enter Tryz.func33, Tryz.ntmps33
 go_wp2_with fail
 clear hW1
 refine (vlen_calls _ V _ HV.out).mono ?_
 rintro e W11 ⟨rfl, hB⟩
 clear cHA0; replace HA := HA.go hB; replace HB := cb hB HB; replace HV := HV.go hB; rw [HN.out]; clear hB; have cHA0 := HA.out.2.1
 go_wp2_with fail
 obtain ⟨W12, hWD, hB⟩ := drwn W11
 clear cHA0; replace HA := HA.go hB; replace HB := cb hB HB; replace HV := HV.go hB; clear hB
 refine rgn (S := fun w' => w'.cell? ⟨w.heap.size, 0, none⟩ = some (u)) hWD HA.out.2.1 (fun hHeld => ?_)
 clear hWD; apply tk 0; apply tk 1; apply tk 2; apply tk 3
 apply rdy 4; intro K hK; clear hHeld; go_simp
 have HE := Lib.hid (hempty_calls (2 * q) W12 (by have := HQ.out; omega))
 rw [show ((2 * q : Nat) : Int) = 2 * (q : Int) by omega] at HE
 have HB0 := HB
 refine (HE.out).mono ?_
 rintro e W13 ⟨sb, rfl, hsb, hR, hB⟩
 replace HA := HA.go hB; replace HB := cb hB HB; replace HV := HV.go hB; have HR := Lib.hid hR
 have HSB := Lib.hid (show w.heap.size ≤ sb from Nat.le_trans HB0.out.size hsb)
 clear hsb hR HE; clear hB; clear HB0
 try go_simp
 refine hK.out _ _ HA.out.2.1 (fun hHeld => ?_)
 clear hK K; apply tk 5
 apply rdy 6; intro K hK; clear hHeld; go_simp
 have HSZ := Lib.hid (show w.heap.size ≤ W13.heap.size ∧ sb < W13.heap.size from ⟨HB.out.size, HR.out.lt⟩)
 go_simp
 obtain ⟨W14, hWn⟩ : ∃ xw9, W13.alloc (.cells #[u, .slice (some ⟨sb, 0, none⟩) (2 * q) (2 * q), .int .i64 0] 107) = xw9 := ⟨_, rfl⟩
 have hB : Below W13.heap.size W13 W14 := by rw [← hWn]; exact below_new _ _
 have hNB : At3 W14 W13.heap.size (u) (.slice (some ⟨sb, 0, none⟩) (2 * q) (2 * q)) (.int .i64 0) := by rw [← hWn]; exact At3.new _ _ _ _ _
 rw [hWn]; clear hWn
 obtain ⟨tb, hnm⟩ : ∃ x, W13.heap.size = x := ⟨_, rfl⟩
 rw [hnm] at hNB HSZ ⊢
 replace HA := HA.go hB; replace HB := cb hB HB; replace HV := HV.go hB; replace HR := HR.go hB; have HT := Lib.hid hNB; clear hNB hB hnm
 try go_simp
 refine hK.out _ _ HA.out.2.1 (fun hHeld => ?_)
 clear hK K; apply tk 7
 refine wpAnyH_done (by kernel_rfl) ?_ _
 clear hHeld
 go_wp2_with fail
 go_ret
 refine ⟨tb, sb, rfl, ⟨HSZ.out.1, HSB.out, by have := HSZ.out.2; omega, by rw [List.length_replicate]; exact HT.out, HR.out⟩, HB.out⟩

theorem itH_at {A : VV} {i : Nat} (h : i < A.len) : atI (itsA 39 A) (blankI 0) (i : Int) = itH A i := by
 rw [atI_nat (by rw [itsA_len]; exact h)]
 have := itsA_get (d := 39) h
 rw [List.getElem?_eq_getElem (by rw [itsA_len]; exact h)] at this
 exact Option.some.inj this
theorem put_next {A : VV} {S : List (Nat × Int)} {b0 tb sb j r : Nat} {u : Value} {w' : World} (hj : j < A.len) (hS : HTab (itH A) kH A.len (fstL (itsA 39 A) j) S) (hp : PutRes A (fstL (itsA 39 A) j) S (fstL (itsA 39 A) j).length b0 tb sb u j r w') :
  (∃ S', S'.length = S.length ∧ TabM w' b0 tb sb u S' (fstL (itsA 39 A) (j + 1)).length ∧ HTab (itH A) kH A.len (fstL (itsA 39 A) (j + 1)) S') ∧ r = fndI (itsA 39 A) (itH A j) ∧ (r = j ∨ r < j) := by
 have hlt : ∀ p ∈ fstL (itsA 39 A) j, p < A.len := fun p hp => by have := (fstL_mem hp).1; omega
 have hlen := itsA_len 39 A
 rcases hp with ⟨rfl, hno, S', h1, h2, h3⟩ | ⟨hr, he, ht⟩
 ·have hge := fst_miss (l := itsA 39 A) (j := r) (x := itH A r) (by omega) (fun p hp => by rw [itH_at (hlt p hp)]; exact hno p hp)
  have hle := fndI_self (l := itsA 39 A) (j := r) (by omega)
  rw [itH_at hj] at hle
  have hf : fndI (itsA 39 A) (itH A r) = r := by omega
  rw [fstL_snoc, itH_at hj, if_pos hf, List.length_append]
  exact ⟨⟨S', h1, h2, h3⟩, hf.symm, Or.inl rfl⟩
 ·obtain ⟨hf, hl⟩ := fst_hit (x := itH A j) hr (by rw [itH_at (hlt r hr)]; exact he)
  rw [fstL_snoc, itH_at hj, if_neg (by omega), List.append_nil]
  exact ⟨⟨S, rfl, ht, hS⟩, hf.symm, Or.inr hl⟩
theorem get_val {A : VV} {x : PI} {r : Int} (h : (r = -1 ∧ ∀ p ∈ fstL (itsA 39 A) A.len, itH A p ≠ x) ∨ ∃ p ∈ fstL (itsA 39 A) A.len, r = (p : Int) ∧ itH A p = x) :
  r = if fndI (itsA 39 A) x < A.len then (fndI (itsA 39 A) x : Int) else -1 := by
 have hlen := itsA_len 39 A
 rcases h with ⟨rfl, hno⟩ | ⟨p, hp, rfl, he⟩
 ·have := fst_miss (l := itsA 39 A) (j := A.len) (x := x) (by omega) (fun p hp => by rw [itH_at (fstL_mem hp).1]; exact hno p hp)
  rw [if_neg (by omega)]
 ·obtain ⟨hf, hl⟩ := fst_hit (x := x) hp (by rw [itH_at (fstL_mem hp).1]; exact he)
  rw [if_pos (by omega), hf]
end Go.Proofs.YtbdhibcbpgjbmaaGreatDoor

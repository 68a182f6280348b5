/- Layer 14's law: ScanRows. -/
import Derived.Test.YtbacchbcanlciaaGreatDoorMgSc2
import Derived.Test.YtbacchbcanlciaaGreatDoorMgFo1
import Derived.Test.YtbacchbcanlciaaGreatDoorMgSq1
import Derived.Test.YtbacchbcanlciaaGreatDoorMgVe1
namespace Go.Proofs.YtbacchbcanlciaaGreatDoor
set_option maxRecDepth 100000
open Go.RowKit Fl
set_option linter.unusedVariables false

/-- What Scan tells of numbers in any store is what the reference tells of the numbers. -/
theorem sc_meet {f : Int} {V : VV} {t : List Nat} {outer n inner : Nat} (hV : KepK t V) (hl : t.length = outer * n * inner) :
  scE f V outer n inner = rsE f t outer n inner ∧ (rsE f t outer n inner ≠ 0 → scV f V outer n inner = .none) ∧ (rsE f t outer n inner = 0 → (scV f V outer n inner).nums = rsL f t outer n inner ∧ (scV f V outer n inner).ok ∧ (scV f V outer n inner).nm ∧ (¬ n ≤ 1 → (scV f V outer n inner).kind = (scV f V outer n inner).least) ∧ (∀ x ∈ rsL f t outer n inner, Num x) ∧ (rsL f t outer n inner).length ≤ 2000000) := by
 obtain ⟨⟨h1, h2, h3, h4, h5⟩, h6⟩ := hV
 have hl2 : V.nums.length = outer * n * inner := by rw [h4, hl]
 obtain ⟨e, k⟩ := scan_meet (f := f) h1 h2 h3 hl2
 rw [h4] at e k
 refine ⟨e, fun h => scV_bad (by rw [e]; exact h), fun h => ?_⟩
 obtain ⟨a1, a2, a3, a4⟩ := k (e.trans h)
 refine ⟨a1, a2, a3, ?_, ?_, ?_⟩
 ·intro h9; rcases a4 with a4 | a4
  ·exact absurd a4 h9
  ·exact a4.2
 ·rw [← a1]; exact VV.nums_num a2 a3
 ·rw [← a1]; have := VV.ok_len a2; have := VV.nums_lenle (V := scV f V outer n inner); omega
set_option maxHeartbeats 16000000 in
theorem scanRows_walk (f : Int) (va : Value) (la : List Nat) (outer inner kind : Int) (w : World) (hva : Slc w (fun _ => True) va la.length (f64s la)) (hwa : ∀ x ∈ la, x < 18446744073709551616) (hla : la.length ≤ maxLen) (hT : TabAt w) :
  Calls Tryz.prog 3 #[.int .i64 f, va, .int .i64 outer, .int .i64 inner, .int .i64 kind] w (Yes14 w) := by
 have HVA := Lib.hid hva; have HT := Lib.hid hT; have HWA := Lib.hid hwa
 have HB := Lib.hid (Below.refl w.heap.size w)
 obtain ⟨ao, cap, rfl, _⟩ := hva.opened
 clear hva hT hwa
 by_cases hga : 200 < la.length
 ·go_enter Tryz.func3, Tryz.ntmps3
  go_wp2_with fail
  refine (awake14_calls _ HT.out).mono ?_
  rintro e W11 ⟨rfl, hB⟩
  replace HB := cb hB HB; replace HT := HT.go hB; replace HVA := HVA.go hB; clear hB
  go_wp2_with fail
  go_ret
  exact ⟨rfl, HB.out⟩
 by_cases h1 : outer < 0
 ·go_enter Tryz.func3, Tryz.ntmps3
  go_wp2_with fail
  refine (awake14_calls _ HT.out).mono ?_
  rintro e W11 ⟨rfl, hB⟩
  replace HB := cb hB HB; replace HT := HT.go hB; replace HVA := HVA.go hB; clear hB
  go_wp2_with fail
  go_ret
  exact ⟨rfl, HB.out⟩
 by_cases h2 : inner < 0
 ·go_enter Tryz.func3, Tryz.ntmps3
  go_wp2_with fail
  refine (awake14_calls _ HT.out).mono ?_
  rintro e W11 ⟨rfl, hB⟩
  replace HB := cb hB HB; replace HT := HT.go hB; replace HVA := HVA.go hB; clear hB
  go_wp2_with fail
  go_ret
  exact ⟨rfl, HB.out⟩
 by_cases h3 : 200 < outer
 ·go_enter Tryz.func3, Tryz.ntmps3
  go_wp2_with fail
  refine (awake14_calls _ HT.out).mono ?_
  rintro e W11 ⟨rfl, hB⟩
  replace HB := cb hB HB; replace HT := HT.go hB; replace HVA := HVA.go hB; clear hB
  go_wp2_with fail
  go_ret
  exact ⟨rfl, HB.out⟩
 by_cases h4 : 200 < inner
 ·go_enter Tryz.func3, Tryz.ntmps3
  go_wp2_with fail
  refine (awake14_calls _ HT.out).mono ?_
  rintro e W11 ⟨rfl, hB⟩
  replace HB := cb hB HB; replace HT := HT.go hB; replace HVA := HVA.go hB; clear hB
  go_wp2_with fail
  go_ret
  exact ⟨rfl, HB.out⟩
 obtain ⟨O, hO⟩ : ∃ O : Nat, outer = (O : Int) := ⟨outer.toNat, by omega⟩
 obtain ⟨I, hI⟩ : ∃ I : Nat, inner = (I : Int) := ⟨inner.toNat, by omega⟩
 subst hO hI
 have HO3 := Lib.hid (show O ≤ 200 by omega)
 have HI3 := Lib.hid (show I ≤ 200 by omega)
 have HLA := Lib.hid (show la.length ≤ 200 by omega)
 clear hla
 by_cases h5 : O = 0
 ·obtain ⟨NN, hNZ⟩ : ∃ NN : Nat, 0 = NN := ⟨_, rfl⟩
  have hNN : NN ≤ 200 := by omega
  have hKL : NN * O * I ≤ la.length := by rw [← hNZ]; simp
  have hO0 : ¬ 0 < (O : Int) := by omega
  have hn0 : (0 : Int) = (NN : Int) := by omega
  clear h5 hNZ
  obtain ⟨X, hX⟩ : ∃ X, NN * O = X := ⟨_, rfl⟩
  obtain ⟨K, hK⟩ : ∃ K, X * I = K := ⟨_, rfl⟩
  rw [hX, hK] at hKL
  have hXm : X ≤ 40000 := by rw [← hX]; have := Nat.mul_le_mul hNN HO3.out; omega
  have q1 : IntKind.i64.wrap ((NN : Int) * (O : Int)) = (X : Int) := by rw [← Int.natCast_mul, hX]; exact IntWalk.i64_in _ (by omega)
  have q2 : IntKind.i64.wrap ((X : Int) * (I : Int)) = (K : Int) := by rw [← Int.natCast_mul, hK]; exact IntWalk.i64_in _ (by have := HLA.out; omega)
  obtain ⟨lb, hlb⟩ : ∃ lb, la.take K = lb := ⟨_, rfl⟩
  have HLB := Lib.hid (show lb.length = K by rw [← hlb, List.length_take]; omega)
  have HWB := Lib.hid (show ∀ x ∈ lb, x < 18446744073709551616 by rw [← hlb]; intro x hx; exact HWA.out x (List.mem_of_mem_take hx))
  have HKE := Lib.hid (show K = O * NN * I by rw [← hK, ← hX, Nat.mul_comm NN O])
  have HKM := Lib.hid (show K ≤ 200 by have := HLA.out; omega)
  have HVB := Lib.hid (show Slc w (fun _ => True) (.slice ao K cap) lb.length (f64s lb) by
   have := Slc.takem (Value.float .f64) HVA.out K hKL
   rw [hlb] at this; exact this)
  have HNN := Lib.hid hNN
  have HOI := Lib.hid (show O * I ≤ 1048576 by have := Nat.mul_le_mul HO3.out HI3.out; omega)
  have hla3 := HLA.out; clear hX hK hlb
  by_cases hfb : ∀ x ∈ lb, Fnt x
  rotate_left
  ·have HF : Hid (∃ x ∈ lb, ¬ Fnt x) := Lib.hid (by
    apply Classical.byContradiction
    intro hc
    exact hfb fun x hx => Classical.byContradiction fun hn => hc ⟨x, hx, hn⟩)
   clear hfb
   go_enter Tryz.func3, Tryz.ntmps3
   go_wp2_with fail
   refine (kept14_no _ lb kind _ HVB.out (by rw [HLB.out]; have := HKM.out; omega) HWB.out HF.out HT.out).mono ?_
   rintro e W11 ⟨u, V, rfl, hu, hk, hB⟩
   replace HB := cb hB HB; replace HT := HT.go hB; replace HVA := HVA.go hB; replace HVB := HVB.go hB; have HU := Lib.hid (IsV.any hu); have hsu := hu.store; clear hu hk; clear hB
   obtain ⟨W12, hWn, hB, hNB⟩ := ahd1 W11 (u) 25
   replace HB := cb hB HB; replace HT := HT.go hB; replace HVA := HVA.go hB; replace HVB := HVB.go hB; replace HU := HU.go hB; have HA := Lib.hid hNB; clear hNB hB; have cHA0 := HA.out.2.1
   go_wp2_with fail
   clear hWn
   refine (awake14_calls _ HT.out).mono ?_
   rintro e W13 ⟨rfl, hB⟩
   clear cHA0; replace HB := cb hB HB; replace HT := HT.go hB; replace HVA := HVA.go hB; replace HVB := HVB.go hB; replace HU := HU.go hB; replace HA := HA.go hB; clear hB; have cHA0 := HA.out.2.1
   go_wp2_with fail
   go_ret
   exact ⟨rfl, HB.out⟩
  have HF := Lib.hid hfb
  obtain ⟨tb, htb⟩ : ∃ t, lb.map ze = t := ⟨_, rfl⟩
  have HTB := Lib.hid htb
  have HN := Lib.hid (show ∀ x ∈ tb, Num x by rw [← htb]; intro x hx; obtain ⟨y, hy, rfl⟩ := List.mem_map.1 hx; exact ze_num (hfb y hy))
  have HTL := Lib.hid (show tb.length = K by rw [← htb, List.length_map, HLB.out])
  clear hfb htb
  go_enter Tryz.func3, Tryz.ntmps3
  go_wp2_with fail
  refine (kept14_yes _ lb kind _ HVB.out (by rw [HLB.out]; have := HKM.out; omega) HF.out HT.out).mono ?_
  rintro e W11 ⟨u, V, rfl, hu, hk, hB⟩
  replace HB := cb hB HB; replace HT := HT.go hB; replace HVA := HVA.go hB; replace HVB := HVB.go hB; have HU := Lib.hid (IsV.any hu)
  have HK := Lib.hid (show KepK tb V from hk _ (congrArg some HTB.out))
  have hsu := hu.store; clear hu hk; clear hB
  obtain ⟨W12, hWn, hB, hNB⟩ := ahd1 W11 (u) 25
  replace HB := cb hB HB; replace HT := HT.go hB; replace HVA := HVA.go hB; replace HVB := HVB.go hB; replace HU := HU.go hB; have HA := Lib.hid hNB; clear hNB hB; have cHA0 := HA.out.2.1
  go_wp2_with fail
  clear hWn
  refine (rtidys_yes _ lb _ HVB.out (by rw [HLB.out]; have := HKM.out; omega) HF.out).mono ?_
  rintro e W13 ⟨vt, rfl, hvt, hB⟩
  clear cHA0; replace HB := cb hB HB; replace HT := HT.go hB; replace HVA := HVA.go hB; replace HVB := HVB.go hB; replace HU := HU.go hB; replace HA := HA.go hB
  have HVT := Lib.hid (show Slc W13 (fun _ => True) vt tb.length (f64s tb) by rw [← HTB.out, List.length_map]; exact hvt.any)
  clear hvt; clear hB; have cHA0 := HA.out.2.1
  go_wp2_with fail
  have HM := Lib.hid (sc_meet (f := f) (outer := O) (n := NN) (inner := I) HK.out (by rw [HTL.out, HKE.out]))
  refine (scscan_calls f _ V O NN I _ HU.out HK.out.1.1 HK.out.1.2.1 (by rw [HK.out.1.2.2.2.2, HTL.out, HKE.out]) (by have := HNN.out; omega) (by have := HI3.out; omega) (by have := HO3.out; omega) HT.out).mono ?_
  rintro e W14 ⟨ua, rfl, hua, hB⟩
  clear cHA0; replace HB := cb hB HB; replace HT := HT.go hB; replace HVA := HVA.go hB; replace HVB := HVB.go hB; replace HU := HU.go hB; replace HA := HA.go hB; replace HVT := HVT.go hB
  rw [HM.out.1]
  obtain ⟨V2, hV2⟩ : ∃ V2, V2 = scV f V O NN I := ⟨_, rfl⟩
  have HV2 := Lib.hid hV2
  rw [← hV2] at hua
  have HUR := Lib.hid (IsV.any hua); have hs2 := HUR.out.store; clear hua hV2; clear hB
  obtain ⟨W15, hWn, hB, hNB⟩ := ahd1 W14 (ua) 25
  replace HB := cb hB HB; replace HT := HT.go hB; replace HVA := HVA.go hB; replace HVB := HVB.go hB; replace HU := HU.go hB; replace HA := HA.go hB; replace HVT := HVT.go hB; replace HUR := HUR.go hB; have HAA := Lib.hid hNB; clear hNB hB; have cHA0 := HA.out.2.1; have cHAA0 := HAA.out.2.1
  go_wp2_with fail
  clear hWn
  refine (rsscan_calls f _ tb O NN I _ HVT.out (by rw [HTL.out, HKE.out]) (by rw [HTL.out]; have := HKM.out; omega) HN.out (by have := HNN.out; omega) (by have := HI3.out; omega) (by have := HO3.out; omega)).mono ?_
  rintro e W16 ⟨vr, rfl, hvr, hB⟩
  clear cHA0 cHAA0; replace HB := cb hB HB; replace HT := HT.go hB; replace HVA := HVA.go hB; replace HVB := HVB.go hB; replace HU := HU.go hB; replace HA := HA.go hB; replace HVT := HVT.go hB; replace HUR := HUR.go hB; replace HAA := HAA.go hB; have HVR := Lib.hid hvr.any; clear hvr
  obtain ⟨E, hE⟩ : ∃ E, E = rsE f tb O NN I := ⟨_, rfl⟩
  have HEE := Lib.hid hE
  rw [← hE]
  clear hE; clear hB
  have hgg : (E != E) = false := by simp
  by_cases hE0 : E = 0
  rotate_left
  ·have hE1 : (E != 0) = true := by simp [hE0]
   have HVN := Lib.hid (show V2 = .none by rw [HV2.out]; exact HM.out.2.1 (by rw [← HEE.out]; exact hE0))
   rw [HVN.out] at HUR
   clear hE0; have cHA0 := HA.out.2.1; have cHAA0 := HAA.out.2.1
   go_wp2_with fail
   refine (kind_calls _ .none _ HUR.out).mono ?_
   rintro e W17 ⟨rfl, hB⟩
   clear cHA0 cHAA0; replace HB := cb hB HB; replace HT := HT.go hB; replace HVA := HVA.go hB; replace HVB := HVB.go hB; replace HU := HU.go hB; replace HA := HA.go hB; replace HVT := HVT.go hB; replace HUR := HUR.go hB; replace HAA := HAA.go hB; replace HVR := HVR.go hB; clear hB; have cHA0 := HA.out.2.1; have cHAA0 := HAA.out.2.1
   go_wp2_with fail
   refine (awake14_calls _ HT.out).mono ?_
   rintro e W18 ⟨rfl, hB⟩
   clear cHA0 cHAA0; replace HB := cb hB HB; replace HT := HT.go hB; replace HVA := HVA.go hB; replace HVB := HVB.go hB; replace HU := HU.go hB; replace HA := HA.go hB; replace HVT := HVT.go hB; replace HUR := HUR.go hB; replace HAA := HAA.go hB; replace HVR := HVR.go hB; clear hB; have cHA0 := HA.out.2.1; have cHAA0 := HAA.out.2.1
   go_wp2_with fail
   go_ret
   exact ⟨rfl, HB.out⟩
  have HMM := Lib.hid (HM.out.2.2 (by rw [← HEE.out]; exact hE0))
  rw [← HV2.out] at HMM
  have hE1 : (E != 0) = false := by simp [hE0]
  clear hE0
  by_cases hN1 : NN ≤ 1
  ·have hb1 : (NN : Int) ≤ 1 := by omega
   clear hN1; have cHA0 := HA.out.2.1; have cHAA0 := HAA.out.2.1
   go_wp2_with fail
   refine (vnums_calls _ V2 _ HUR.out HMM.out.2.1 HT.out).mono ?_
   rintro e W17 ⟨vn, rfl, hvn, hB⟩
   clear cHA0 cHAA0; replace HB := cb hB HB; replace HT := HT.go hB; replace HVA := HVA.go hB; replace HVB := HVB.go hB; replace HU := HU.go hB; replace HA := HA.go hB; replace HVT := HVT.go hB; replace HUR := HUR.go hB; replace HAA := HAA.go hB; replace HVR := HVR.go hB
   rw [HMM.out.1] at hvn
   have HVN := Lib.hid hvn.any; clear hvn; clear hB; have cHA0 := HA.out.2.1; have cHAA0 := HAA.out.2.1
   go_wp2_with fail
   refine (floats_same _ _ (rsL f tb O NN I) _ HVN.out HVR.out HMM.out.2.2.2.2.2 HMM.out.2.2.2.2.1).mono ?_
   rintro e W18 ⟨rfl, hB⟩
   clear cHA0 cHAA0; replace HB := cb hB HB; replace HT := HT.go hB; replace HVA := HVA.go hB; replace HVB := HVB.go hB; replace HU := HU.go hB; replace HA := HA.go hB; replace HVT := HVT.go hB; replace HUR := HUR.go hB; replace HAA := HAA.go hB; replace HVR := HVR.go hB; replace HVN := HVN.go hB; clear hB; have cHA0 := HA.out.2.1; have cHAA0 := HAA.out.2.1
   go_wp2_with fail
   refine (awake14_calls _ HT.out).mono ?_
   rintro e W19 ⟨rfl, hB⟩
   clear cHA0 cHAA0; replace HB := cb hB HB; replace HT := HT.go hB; replace HVA := HVA.go hB; replace HVB := HVB.go hB; replace HU := HU.go hB; replace HA := HA.go hB; replace HVT := HVT.go hB; replace HUR := HUR.go hB; replace HAA := HAA.go hB; replace HVR := HVR.go hB; replace HVN := HVN.go hB; clear hB; have cHA0 := HA.out.2.1; have cHAA0 := HAA.out.2.1
   go_wp2_with fail
   go_ret
   exact ⟨rfl, HB.out⟩
  ·exact absurd (show NN ≤ 1 by omega) hN1
 by_cases h6 : I = 0
 ·obtain ⟨NN, hNZ⟩ : ∃ NN : Nat, 0 = NN := ⟨_, rfl⟩
  have hNN : NN ≤ 200 := by omega
  have hKL : NN * O * I ≤ la.length := by rw [← hNZ]; simp
  have hO0 : 0 < (O : Int) := by omega
  have hI0 : ¬ 0 < (I : Int) := by omega
  have hn0 : (0 : Int) = (NN : Int) := by omega
  clear h5 h6 hNZ
  obtain ⟨X, hX⟩ : ∃ X, NN * O = X := ⟨_, rfl⟩
  obtain ⟨K, hK⟩ : ∃ K, X * I = K := ⟨_, rfl⟩
  rw [hX, hK] at hKL
  have hXm : X ≤ 40000 := by rw [← hX]; have := Nat.mul_le_mul hNN HO3.out; omega
  have q1 : IntKind.i64.wrap ((NN : Int) * (O : Int)) = (X : Int) := by rw [← Int.natCast_mul, hX]; exact IntWalk.i64_in _ (by omega)
  have q2 : IntKind.i64.wrap ((X : Int) * (I : Int)) = (K : Int) := by rw [← Int.natCast_mul, hK]; exact IntWalk.i64_in _ (by have := HLA.out; omega)
  obtain ⟨lb, hlb⟩ : ∃ lb, la.take K = lb := ⟨_, rfl⟩
  have HLB := Lib.hid (show lb.length = K by rw [← hlb, List.length_take]; omega)
  have HWB := Lib.hid (show ∀ x ∈ lb, x < 18446744073709551616 by rw [← hlb]; intro x hx; exact HWA.out x (List.mem_of_mem_take hx))
  have HKE := Lib.hid (show K = O * NN * I by rw [← hK, ← hX, Nat.mul_comm NN O])
  have HKM := Lib.hid (show K ≤ 200 by have := HLA.out; omega)
  have HVB := Lib.hid (show Slc w (fun _ => True) (.slice ao K cap) lb.length (f64s lb) by
   have := Slc.takem (Value.float .f64) HVA.out K hKL
   rw [hlb] at this; exact this)
  have HNN := Lib.hid hNN
  have HOI := Lib.hid (show O * I ≤ 1048576 by have := Nat.mul_le_mul HO3.out HI3.out; omega)
  have hla3 := HLA.out; clear hX hK hlb
  by_cases hfb : ∀ x ∈ lb, Fnt x
  rotate_left
  ·have HF : Hid (∃ x ∈ lb, ¬ Fnt x) := Lib.hid (by
    apply Classical.byContradiction
    intro hc
    exact hfb fun x hx => Classical.byContradiction fun hn => hc ⟨x, hx, hn⟩)
   clear hfb
   go_enter Tryz.func3, Tryz.ntmps3
   go_wp2_with fail
   refine (kept14_no _ lb kind _ HVB.out (by rw [HLB.out]; have := HKM.out; omega) HWB.out HF.out HT.out).mono ?_
   rintro e W11 ⟨u, V, rfl, hu, hk, hB⟩
   replace HB := cb hB HB; replace HT := HT.go hB; replace HVA := HVA.go hB; replace HVB := HVB.go hB; have HU := Lib.hid (IsV.any hu); have hsu := hu.store; clear hu hk; clear hB
   obtain ⟨W12, hWn, hB, hNB⟩ := ahd1 W11 (u) 25
   replace HB := cb hB HB; replace HT := HT.go hB; replace HVA := HVA.go hB; replace HVB := HVB.go hB; replace HU := HU.go hB; have HA := Lib.hid hNB; clear hNB hB; have cHA0 := HA.out.2.1
   go_wp2_with fail
   clear hWn
   refine (awake14_calls _ HT.out).mono ?_
   rintro e W13 ⟨rfl, hB⟩
   clear cHA0; replace HB := cb hB HB; replace HT := HT.go hB; replace HVA := HVA.go hB; replace HVB := HVB.go hB; replace HU := HU.go hB; replace HA := HA.go hB; clear hB; have cHA0 := HA.out.2.1
   go_wp2_with fail
   go_ret
   exact ⟨rfl, HB.out⟩
  have HF := Lib.hid hfb
  obtain ⟨tb, htb⟩ : ∃ t, lb.map ze = t := ⟨_, rfl⟩
  have HTB := Lib.hid htb
  have HN := Lib.hid (show ∀ x ∈ tb, Num x by rw [← htb]; intro x hx; obtain ⟨y, hy, rfl⟩ := List.mem_map.1 hx; exact ze_num (hfb y hy))
  have HTL := Lib.hid (show tb.length = K by rw [← htb, List.length_map, HLB.out])
  clear hfb htb
  go_enter Tryz.func3, Tryz.ntmps3
  go_wp2_with fail
  refine (kept14_yes _ lb kind _ HVB.out (by rw [HLB.out]; have := HKM.out; omega) HF.out HT.out).mono ?_
  rintro e W11 ⟨u, V, rfl, hu, hk, hB⟩
  replace HB := cb hB HB; replace HT := HT.go hB; replace HVA := HVA.go hB; replace HVB := HVB.go hB; have HU := Lib.hid (IsV.any hu)
  have HK := Lib.hid (show KepK tb V from hk _ (congrArg some HTB.out))
  have hsu := hu.store; clear hu hk; clear hB
  obtain ⟨W12, hWn, hB, hNB⟩ := ahd1 W11 (u) 25
  replace HB := cb hB HB; replace HT := HT.go hB; replace HVA := HVA.go hB; replace HVB := HVB.go hB; replace HU := HU.go hB; have HA := Lib.hid hNB; clear hNB hB; have cHA0 := HA.out.2.1
  go_wp2_with fail
  clear hWn
  refine (rtidys_yes _ lb _ HVB.out (by rw [HLB.out]; have := HKM.out; omega) HF.out).mono ?_
  rintro e W13 ⟨vt, rfl, hvt, hB⟩
  clear cHA0; replace HB := cb hB HB; replace HT := HT.go hB; replace HVA := HVA.go hB; replace HVB := HVB.go hB; replace HU := HU.go hB; replace HA := HA.go hB
  have HVT := Lib.hid (show Slc W13 (fun _ => True) vt tb.length (f64s tb) by rw [← HTB.out, List.length_map]; exact hvt.any)
  clear hvt; clear hB; have cHA0 := HA.out.2.1
  go_wp2_with fail
  have HM := Lib.hid (sc_meet (f := f) (outer := O) (n := NN) (inner := I) HK.out (by rw [HTL.out, HKE.out]))
  refine (scscan_calls f _ V O NN I _ HU.out HK.out.1.1 HK.out.1.2.1 (by rw [HK.out.1.2.2.2.2, HTL.out, HKE.out]) (by have := HNN.out; omega) (by have := HI3.out; omega) (by have := HO3.out; omega) HT.out).mono ?_
  rintro e W14 ⟨ua, rfl, hua, hB⟩
  clear cHA0; replace HB := cb hB HB; replace HT := HT.go hB; replace HVA := HVA.go hB; replace HVB := HVB.go hB; replace HU := HU.go hB; replace HA := HA.go hB; replace HVT := HVT.go hB
  rw [HM.out.1]
  obtain ⟨V2, hV2⟩ : ∃ V2, V2 = scV f V O NN I := ⟨_, rfl⟩
  have HV2 := Lib.hid hV2
  rw [← hV2] at hua
  have HUR := Lib.hid (IsV.any hua); have hs2 := HUR.out.store; clear hua hV2; clear hB
  obtain ⟨W15, hWn, hB, hNB⟩ := ahd1 W14 (ua) 25
  replace HB := cb hB HB; replace HT := HT.go hB; replace HVA := HVA.go hB; replace HVB := HVB.go hB; replace HU := HU.go hB; replace HA := HA.go hB; replace HVT := HVT.go hB; replace HUR := HUR.go hB; have HAA := Lib.hid hNB; clear hNB hB; have cHA0 := HA.out.2.1; have cHAA0 := HAA.out.2.1
  go_wp2_with fail
  clear hWn
  refine (rsscan_calls f _ tb O NN I _ HVT.out (by rw [HTL.out, HKE.out]) (by rw [HTL.out]; have := HKM.out; omega) HN.out (by have := HNN.out; omega) (by have := HI3.out; omega) (by have := HO3.out; omega)).mono ?_
  rintro e W16 ⟨vr, rfl, hvr, hB⟩
  clear cHA0 cHAA0; replace HB := cb hB HB; replace HT := HT.go hB; replace HVA := HVA.go hB; replace HVB := HVB.go hB; replace HU := HU.go hB; replace HA := HA.go hB; replace HVT := HVT.go hB; replace HUR := HUR.go hB; replace HAA := HAA.go hB; have HVR := Lib.hid hvr.any; clear hvr
  obtain ⟨E, hE⟩ : ∃ E, E = rsE f tb O NN I := ⟨_, rfl⟩
  have HEE := Lib.hid hE
  rw [← hE]
  clear hE; clear hB
  have hgg : (E != E) = false := by simp
  by_cases hE0 : E = 0
  rotate_left
  ·have hE1 : (E != 0) = true := by simp [hE0]
   have HVN := Lib.hid (show V2 = .none by rw [HV2.out]; exact HM.out.2.1 (by rw [← HEE.out]; exact hE0))
   rw [HVN.out] at HUR
   clear hE0; have cHA0 := HA.out.2.1; have cHAA0 := HAA.out.2.1
   go_wp2_with fail
   refine (kind_calls _ .none _ HUR.out).mono ?_
   rintro e W17 ⟨rfl, hB⟩
   clear cHA0 cHAA0; replace HB := cb hB HB; replace HT := HT.go hB; replace HVA := HVA.go hB; replace HVB := HVB.go hB; replace HU := HU.go hB; replace HA := HA.go hB; replace HVT := HVT.go hB; replace HUR := HUR.go hB; replace HAA := HAA.go hB; replace HVR := HVR.go hB; clear hB; have cHA0 := HA.out.2.1; have cHAA0 := HAA.out.2.1
   go_wp2_with fail
   refine (awake14_calls _ HT.out).mono ?_
   rintro e W18 ⟨rfl, hB⟩
   clear cHA0 cHAA0; replace HB := cb hB HB; replace HT := HT.go hB; replace HVA := HVA.go hB; replace HVB := HVB.go hB; replace HU := HU.go hB; replace HA := HA.go hB; replace HVT := HVT.go hB; replace HUR := HUR.go hB; replace HAA := HAA.go hB; replace HVR := HVR.go hB; clear hB; have cHA0 := HA.out.2.1; have cHAA0 := HAA.out.2.1
   go_wp2_with fail
   go_ret
   exact ⟨rfl, HB.out⟩
  have HMM := Lib.hid (HM.out.2.2 (by rw [← HEE.out]; exact hE0))
  rw [← HV2.out] at HMM
  have hE1 : (E != 0) = false := by simp [hE0]
  clear hE0
  by_cases hN1 : NN ≤ 1
  ·have hb1 : (NN : Int) ≤ 1 := by omega
   clear hN1; have cHA0 := HA.out.2.1; have cHAA0 := HAA.out.2.1
   go_wp2_with fail
   refine (vnums_calls _ V2 _ HUR.out HMM.out.2.1 HT.out).mono ?_
   rintro e W17 ⟨vn, rfl, hvn, hB⟩
   clear cHA0 cHAA0; replace HB := cb hB HB; replace HT := HT.go hB; replace HVA := HVA.go hB; replace HVB := HVB.go hB; replace HU := HU.go hB; replace HA := HA.go hB; replace HVT := HVT.go hB; replace HUR := HUR.go hB; replace HAA := HAA.go hB; replace HVR := HVR.go hB
   rw [HMM.out.1] at hvn
   have HVN := Lib.hid hvn.any; clear hvn; clear hB; have cHA0 := HA.out.2.1; have cHAA0 := HAA.out.2.1
   go_wp2_with fail
   refine (floats_same _ _ (rsL f tb O NN I) _ HVN.out HVR.out HMM.out.2.2.2.2.2 HMM.out.2.2.2.2.1).mono ?_
   rintro e W18 ⟨rfl, hB⟩
   clear cHA0 cHAA0; replace HB := cb hB HB; replace HT := HT.go hB; replace HVA := HVA.go hB; replace HVB := HVB.go hB; replace HU := HU.go hB; replace HA := HA.go hB; replace HVT := HVT.go hB; replace HUR := HUR.go hB; replace HAA := HAA.go hB; replace HVR := HVR.go hB; replace HVN := HVN.go hB; clear hB; have cHA0 := HA.out.2.1; have cHAA0 := HAA.out.2.1
   go_wp2_with fail
   refine (awake14_calls _ HT.out).mono ?_
   rintro e W19 ⟨rfl, hB⟩
   clear cHA0 cHAA0; replace HB := cb hB HB; replace HT := HT.go hB; replace HVA := HVA.go hB; replace HVB := HVB.go hB; replace HU := HU.go hB; replace HA := HA.go hB; replace HVT := HVT.go hB; replace HUR := HUR.go hB; replace HAA := HAA.go hB; replace HVR := HVR.go hB; replace HVN := HVN.go hB; clear hB; have cHA0 := HA.out.2.1; have cHAA0 := HAA.out.2.1
   go_wp2_with fail
   go_ret
   exact ⟨rfl, HB.out⟩
  ·exact absurd (show NN ≤ 1 by omega) hN1
 obtain ⟨NN, hNQ⟩ : ∃ NN : Nat, la.length / O / I = NN := ⟨_, rfl⟩
 have hNN : NN ≤ 200 := by rw [← hNQ]; exact Nat.le_trans (Nat.div_le_self _ _) (Nat.le_trans (Nat.div_le_self _ _) HLA.out)
 have hKL : NN * O * I ≤ la.length := by
  rw [← hNQ, Nat.div_div_eq_div_mul, Nat.mul_assoc]
  exact Nat.div_mul_le_self _ _
 have hO0 : 0 < (O : Int) := by omega
 have hI0 : 0 < (I : Int) := by omega
 obtain ⟨Q, hQ⟩ : ∃ Q, la.length / O = Q := ⟨_, rfl⟩
 rw [hQ] at hNQ
 have hQm : Q ≤ 200 := by rw [← hQ]; exact Nat.le_trans (Nat.div_le_self _ _) HLA.out
 have qa : IntKind.i64.wrap ((la.length : Int) / (O : Int)) = (Q : Int) := by rw [show ((la.length : Int) / (O : Int)) = ((Q : Nat) : Int) by rw [← hQ]; simp]; exact IntWalk.i64_in _ (by omega)
 have qd : ((Q : Int) / (I : Int)) = (NN : Int) := by rw [← hNQ]; simp
 have qt : (Q : Int).tdiv (I : Int) = (NN : Int) := by rw [← hNQ]; rfl
 clear hQ; clear h5 h6 hNQ
 obtain ⟨X, hX⟩ : ∃ X, NN * O = X := ⟨_, rfl⟩
 obtain ⟨K, hK⟩ : ∃ K, X * I = K := ⟨_, rfl⟩
 rw [hX, hK] at hKL
 have hXm : X ≤ 40000 := by rw [← hX]; have := Nat.mul_le_mul hNN HO3.out; omega
 have q1 : IntKind.i64.wrap ((NN : Int) * (O : Int)) = (X : Int) := by rw [← Int.natCast_mul, hX]; exact IntWalk.i64_in _ (by omega)
 have q2 : IntKind.i64.wrap ((X : Int) * (I : Int)) = (K : Int) := by rw [← Int.natCast_mul, hK]; exact IntWalk.i64_in _ (by have := HLA.out; omega)
 obtain ⟨lb, hlb⟩ : ∃ lb, la.take K = lb := ⟨_, rfl⟩
 have HLB := Lib.hid (show lb.length = K by rw [← hlb, List.length_take]; omega)
 have HWB := Lib.hid (show ∀ x ∈ lb, x < 18446744073709551616 by rw [← hlb]; intro x hx; exact HWA.out x (List.mem_of_mem_take hx))
 have HKE := Lib.hid (show K = O * NN * I by rw [← hK, ← hX, Nat.mul_comm NN O])
 have HKM := Lib.hid (show K ≤ 200 by have := HLA.out; omega)
 have HVB := Lib.hid (show Slc w (fun _ => True) (.slice ao K cap) lb.length (f64s lb) by
  have := Slc.takem (Value.float .f64) HVA.out K hKL
  rw [hlb] at this; exact this)
 have HNN := Lib.hid hNN
 have HOI := Lib.hid (show O * I ≤ 1048576 by have := Nat.mul_le_mul HO3.out HI3.out; omega)
 have hla3 := HLA.out; clear hX hK hlb
 by_cases hfb : ∀ x ∈ lb, Fnt x
 rotate_left
 ·have HF : Hid (∃ x ∈ lb, ¬ Fnt x) := Lib.hid (by
   apply Classical.byContradiction
   intro hc
   exact hfb fun x hx => Classical.byContradiction fun hn => hc ⟨x, hx, hn⟩)
  clear hfb
  go_enter Tryz.func3, Tryz.ntmps3
  go_wp2_with fail
  refine (kept14_no _ lb kind _ HVB.out (by rw [HLB.out]; have := HKM.out; omega) HWB.out HF.out HT.out).mono ?_
  rintro e W11 ⟨u, V, rfl, hu, hk, hB⟩
  replace HB := cb hB HB; replace HT := HT.go hB; replace HVA := HVA.go hB; replace HVB := HVB.go hB; have HU := Lib.hid (IsV.any hu); have hsu := hu.store; clear hu hk; clear hB
  obtain ⟨W12, hWn, hB, hNB⟩ := ahd1 W11 (u) 25
  replace HB := cb hB HB; replace HT := HT.go hB; replace HVA := HVA.go hB; replace HVB := HVB.go hB; replace HU := HU.go hB; have HA := Lib.hid hNB; clear hNB hB; have cHA0 := HA.out.2.1
  go_wp2_with fail
  clear hWn
  refine (awake14_calls _ HT.out).mono ?_
  rintro e W13 ⟨rfl, hB⟩
  clear cHA0; replace HB := cb hB HB; replace HT := HT.go hB; replace HVA := HVA.go hB; replace HVB := HVB.go hB; replace HU := HU.go hB; replace HA := HA.go hB; clear hB; have cHA0 := HA.out.2.1
  go_wp2_with fail
  go_ret
  exact ⟨rfl, HB.out⟩
 have HF := Lib.hid hfb
 obtain ⟨tb, htb⟩ : ∃ t, lb.map ze = t := ⟨_, rfl⟩
 have HTB := Lib.hid htb
 have HN := Lib.hid (show ∀ x ∈ tb, Num x by rw [← htb]; intro x hx; obtain ⟨y, hy, rfl⟩ := List.mem_map.1 hx; exact ze_num (hfb y hy))
 have HTL := Lib.hid (show tb.length = K by rw [← htb, List.length_map, HLB.out])
 clear hfb htb
 go_enter Tryz.func3, Tryz.ntmps3
 go_wp2_with fail
 refine (kept14_yes _ lb kind _ HVB.out (by rw [HLB.out]; have := HKM.out; omega) HF.out HT.out).mono ?_
 rintro e W11 ⟨u, V, rfl, hu, hk, hB⟩
 replace HB := cb hB HB; replace HT := HT.go hB; replace HVA := HVA.go hB; replace HVB := HVB.go hB; have HU := Lib.hid (IsV.any hu)
 have HK := Lib.hid (show KepK tb V from hk _ (congrArg some HTB.out))
 have hsu := hu.store; clear hu hk; clear hB
 obtain ⟨W12, hWn, hB, hNB⟩ := ahd1 W11 (u) 25
 replace HB := cb hB HB; replace HT := HT.go hB; replace HVA := HVA.go hB; replace HVB := HVB.go hB; replace HU := HU.go hB; have HA := Lib.hid hNB; clear hNB hB; have cHA0 := HA.out.2.1
 go_wp2_with fail
 clear hWn
 refine (rtidys_yes _ lb _ HVB.out (by rw [HLB.out]; have := HKM.out; omega) HF.out).mono ?_
 rintro e W13 ⟨vt, rfl, hvt, hB⟩
 clear cHA0; replace HB := cb hB HB; replace HT := HT.go hB; replace HVA := HVA.go hB; replace HVB := HVB.go hB; replace HU := HU.go hB; replace HA := HA.go hB
 have HVT := Lib.hid (show Slc W13 (fun _ => True) vt tb.length (f64s tb) by rw [← HTB.out, List.length_map]; exact hvt.any)
 clear hvt; clear hB; have cHA0 := HA.out.2.1
 go_wp2_with fail
 have HM := Lib.hid (sc_meet (f := f) (outer := O) (n := NN) (inner := I) HK.out (by rw [HTL.out, HKE.out]))
 refine (scscan_calls f _ V O NN I _ HU.out HK.out.1.1 HK.out.1.2.1 (by rw [HK.out.1.2.2.2.2, HTL.out, HKE.out]) (by have := HNN.out; omega) (by have := HI3.out; omega) (by have := HO3.out; omega) HT.out).mono ?_
 rintro e W14 ⟨ua, rfl, hua, hB⟩
 clear cHA0; replace HB := cb hB HB; replace HT := HT.go hB; replace HVA := HVA.go hB; replace HVB := HVB.go hB; replace HU := HU.go hB; replace HA := HA.go hB; replace HVT := HVT.go hB
 rw [HM.out.1]
 obtain ⟨V2, hV2⟩ : ∃ V2, V2 = scV f V O NN I := ⟨_, rfl⟩
 have HV2 := Lib.hid hV2
 rw [← hV2] at hua
 have HUR := Lib.hid (IsV.any hua); have hs2 := HUR.out.store; clear hua hV2; clear hB
 obtain ⟨W15, hWn, hB, hNB⟩ := ahd1 W14 (ua) 25
 replace HB := cb hB HB; replace HT := HT.go hB; replace HVA := HVA.go hB; replace HVB := HVB.go hB; replace HU := HU.go hB; replace HA := HA.go hB; replace HVT := HVT.go hB; replace HUR := HUR.go hB; have HAA := Lib.hid hNB; clear hNB hB; have cHA0 := HA.out.2.1; have cHAA0 := HAA.out.2.1
 go_wp2_with fail
 clear hWn
 refine (rsscan_calls f _ tb O NN I _ HVT.out (by rw [HTL.out, HKE.out]) (by rw [HTL.out]; have := HKM.out; omega) HN.out (by have := HNN.out; omega) (by have := HI3.out; omega) (by have := HO3.out; omega)).mono ?_
 rintro e W16 ⟨vr, rfl, hvr, hB⟩
 clear cHA0 cHAA0; replace HB := cb hB HB; replace HT := HT.go hB; replace HVA := HVA.go hB; replace HVB := HVB.go hB; replace HU := HU.go hB; replace HA := HA.go hB; replace HVT := HVT.go hB; replace HUR := HUR.go hB; replace HAA := HAA.go hB; have HVR := Lib.hid hvr.any; clear hvr
 obtain ⟨E, hE⟩ : ∃ E, E = rsE f tb O NN I := ⟨_, rfl⟩
 have HEE := Lib.hid hE
 rw [← hE]
 clear hE; clear hB
 have hgg : (E != E) = false := by simp
 by_cases hE0 : E = 0
 rotate_left
 ·have hE1 : (E != 0) = true := by simp [hE0]
  have HVN := Lib.hid (show V2 = .none by rw [HV2.out]; exact HM.out.2.1 (by rw [← HEE.out]; exact hE0))
  rw [HVN.out] at HUR
  clear hE0; have cHA0 := HA.out.2.1; have cHAA0 := HAA.out.2.1
  go_wp2_with fail
  refine (kind_calls _ .none _ HUR.out).mono ?_
  rintro e W17 ⟨rfl, hB⟩
  clear cHA0 cHAA0; replace HB := cb hB HB; replace HT := HT.go hB; replace HVA := HVA.go hB; replace HVB := HVB.go hB; replace HU := HU.go hB; replace HA := HA.go hB; replace HVT := HVT.go hB; replace HUR := HUR.go hB; replace HAA := HAA.go hB; replace HVR := HVR.go hB; clear hB; have cHA0 := HA.out.2.1; have cHAA0 := HAA.out.2.1
  go_wp2_with fail
  refine (awake14_calls _ HT.out).mono ?_
  rintro e W18 ⟨rfl, hB⟩
  clear cHA0 cHAA0; replace HB := cb hB HB; replace HT := HT.go hB; replace HVA := HVA.go hB; replace HVB := HVB.go hB; replace HU := HU.go hB; replace HA := HA.go hB; replace HVT := HVT.go hB; replace HUR := HUR.go hB; replace HAA := HAA.go hB; replace HVR := HVR.go hB; clear hB; have cHA0 := HA.out.2.1; have cHAA0 := HAA.out.2.1
  go_wp2_with fail
  go_ret
  exact ⟨rfl, HB.out⟩
 have HMM := Lib.hid (HM.out.2.2 (by rw [← HEE.out]; exact hE0))
 rw [← HV2.out] at HMM
 have hE1 : (E != 0) = false := by simp [hE0]
 clear hE0
 by_cases hN1 : NN ≤ 1
 ·have hb1 : (NN : Int) ≤ 1 := by omega
  clear hN1; have cHA0 := HA.out.2.1; have cHAA0 := HAA.out.2.1
  go_wp2_with fail
  refine (vnums_calls _ V2 _ HUR.out HMM.out.2.1 HT.out).mono ?_
  rintro e W17 ⟨vn, rfl, hvn, hB⟩
  clear cHA0 cHAA0; replace HB := cb hB HB; replace HT := HT.go hB; replace HVA := HVA.go hB; replace HVB := HVB.go hB; replace HU := HU.go hB; replace HA := HA.go hB; replace HVT := HVT.go hB; replace HUR := HUR.go hB; replace HAA := HAA.go hB; replace HVR := HVR.go hB
  rw [HMM.out.1] at hvn
  have HVN := Lib.hid hvn.any; clear hvn; clear hB; have cHA0 := HA.out.2.1; have cHAA0 := HAA.out.2.1
  go_wp2_with fail
  refine (floats_same _ _ (rsL f tb O NN I) _ HVN.out HVR.out HMM.out.2.2.2.2.2 HMM.out.2.2.2.2.1).mono ?_
  rintro e W18 ⟨rfl, hB⟩
  clear cHA0 cHAA0; replace HB := cb hB HB; replace HT := HT.go hB; replace HVA := HVA.go hB; replace HVB := HVB.go hB; replace HU := HU.go hB; replace HA := HA.go hB; replace HVT := HVT.go hB; replace HUR := HUR.go hB; replace HAA := HAA.go hB; replace HVR := HVR.go hB; replace HVN := HVN.go hB; clear hB; have cHA0 := HA.out.2.1; have cHAA0 := HAA.out.2.1
  go_wp2_with fail
  refine (awake14_calls _ HT.out).mono ?_
  rintro e W19 ⟨rfl, hB⟩
  clear cHA0 cHAA0; replace HB := cb hB HB; replace HT := HT.go hB; replace HVA := HVA.go hB; replace HVB := HVB.go hB; replace HU := HU.go hB; replace HA := HA.go hB; replace HVT := HVT.go hB; replace HUR := HUR.go hB; replace HAA := HAA.go hB; replace HVR := HVR.go hB; replace HVN := HVN.go hB; clear hB; have cHA0 := HA.out.2.1; have cHAA0 := HAA.out.2.1
  go_wp2_with fail
  go_ret
  exact ⟨rfl, HB.out⟩
 ·have hb1 : ¬ (NN : Int) ≤ 1 := by omega
  have HTG := Lib.hid (HMM.out.2.2.2.1 hN1)
  clear hN1; have cHA0 := HA.out.2.1; have cHAA0 := HAA.out.2.1
  go_wp2_with fail
  refine (vnums_calls _ V2 _ HUR.out HMM.out.2.1 HT.out).mono ?_
  rintro e W17 ⟨vn, rfl, hvn, hB⟩
  clear cHA0 cHAA0; replace HB := cb hB HB; replace HT := HT.go hB; replace HVA := HVA.go hB; replace HVB := HVB.go hB; replace HU := HU.go hB; replace HA := HA.go hB; replace HVT := HVT.go hB; replace HUR := HUR.go hB; replace HAA := HAA.go hB; replace HVR := HVR.go hB
  rw [HMM.out.1] at hvn
  have HVN := Lib.hid hvn.any; clear hvn; clear hB; have cHA0 := HA.out.2.1; have cHAA0 := HAA.out.2.1
  go_wp2_with fail
  refine (floats_same _ _ (rsL f tb O NN I) _ HVN.out HVR.out HMM.out.2.2.2.2.2 HMM.out.2.2.2.2.1).mono ?_
  rintro e W18 ⟨rfl, hB⟩
  clear cHA0 cHAA0; replace HB := cb hB HB; replace HT := HT.go hB; replace HVA := HVA.go hB; replace HVB := HVB.go hB; replace HU := HU.go hB; replace HA := HA.go hB; replace HVT := HVT.go hB; replace HUR := HUR.go hB; replace HAA := HAA.go hB; replace HVR := HVR.go hB; replace HVN := HVN.go hB; clear hB; have cHA0 := HA.out.2.1; have cHAA0 := HAA.out.2.1
  go_wp2_with fail
  refine (tight_calls _ V2 _ HUR.out HMM.out.2.1 HMM.out.2.2.1 HT.out).mono ?_
  rintro e W19 ⟨rfl, hB⟩
  clear cHA0 cHAA0; replace HB := cb hB HB; replace HT := HT.go hB; replace HVA := HVA.go hB; replace HVB := HVB.go hB; replace HU := HU.go hB; replace HA := HA.go hB; replace HVT := HVT.go hB; replace HUR := HUR.go hB; replace HAA := HAA.go hB; replace HVR := HVR.go hB; replace HVN := HVN.go hB
  rw [decide_eq_true HTG.out]
  clear hB; have cHA0 := HA.out.2.1; have cHAA0 := HAA.out.2.1
  go_wp2_with fail
  refine (awake14_calls _ HT.out).mono ?_
  rintro e W20 ⟨rfl, hB⟩
  clear cHA0 cHAA0; replace HB := cb hB HB; replace HT := HT.go hB; replace HVA := HVA.go hB; replace HVB := HVB.go hB; replace HU := HU.go hB; replace HA := HA.go hB; replace HVT := HVT.go hB; replace HUR := HUR.go hB; replace HAA := HAA.go hB; replace HVR := HVR.go hB; replace HVN := HVN.go hB; clear hB; have cHA0 := HA.out.2.1; have cHAA0 := HAA.out.2.1
  go_wp2_with fail
  go_ret
  exact ⟨rfl, HB.out⟩

theorem scanRows_frame (w : World) (f : Int) (_ : (Lit.int .i64 f).wf = true) (va : Value) (la : List Nat) (hra : RowC w va (la.map (Value.float .f64))) (hza : ∀ z ∈ la, (Lit.float .f64 z).wf = true) (hma : la.length ≤ maxLen) (outer : Int) (_ : (Lit.int .i64 outer).wf = true) (inner : Int) (_ : (Lit.int .i64 inner).wf = true) (kind : Int) (_ : (Lit.int .i64 kind).wf = true) (hT : TabAt w) :
  Calls Tryz.prog 3 #[.int .i64 f, va, .int .i64 outer, .int .i64 inner, .int .i64 kind] w fun e w' => e = .returned (.bool true) ∧ Below w.heap.size w w' :=
 scanRows_walk f va la outer inner kind w (by have := hra.slc; rw [List.length_map] at this; exact this) (fun x hx => wf_f64 (hza x hx)) hma hT
end Go.Proofs.YtbacchbcanlciaaGreatDoor

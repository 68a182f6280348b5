/- Layer 14's law: ScanOthers. -/
import Derived.Test.YtbacchbcanlciaaGreatDoorMgSc2
import Derived.Test.YtbacchbcanlciaaGreatDoorMgFo1
import Derived.Test.YtbacchbcanlciaaGreatDoorMgVe1
namespace Go.Proofs.YtbacchbcanlciaaGreatDoor
set_option maxRecDepth 100000
open Go.RowKit Fl
set_option linter.unusedVariables false

set_option maxHeartbeats 16000000 in
theorem scanOthers_walk (f : Int) (v : Value) (l : List Int) (w : World) (hv : Slc w (fun _ => True) v l.length (i32s l)) (hl : l.length ≤ maxLen) (hT : TabAt w) :
  Calls Tryz.prog 5 #[.int .i64 f, v] w (Yes14 w) := by
 have HV := Lib.hid hv; have HT := Lib.hid hT
 have HB := Lib.hid (Below.refl w.heap.size w)
 obtain ⟨ao, cap, rfl, _⟩ := hv.opened
 clear hv hT
 by_cases hga : 200 < l.length
 ·go_enter Tryz.func5, Tryz.ntmps5
  go_wp2_with fail
  refine (awake14_calls _ HT.out).mono ?_
  rintro e W11 ⟨rfl, hB⟩
  replace HB := cb hB HB; replace HT := HT.go hB; replace HV := HV.go hB; clear hB
  go_wp2_with fail
  go_ret
  exact ⟨rfl, HB.out⟩
 have HLL := Lib.hid (show l.length ≤ 1048576 by omega)
 have HL2 := Lib.hid (show l.length ≤ 2000000 by omega)
 go_enter Tryz.func5, Tryz.ntmps5
 go_wp2_with fail
 refine (vchars_calls _ l _ HV.out HL2.out).mono ?_
 rintro e W11 ⟨uc, rfl, huc, hB⟩
 replace HB := cb hB HB; replace HT := HT.go hB; replace HV := HV.go hB; have HC := Lib.hid (IsV.any huc); have hsc := huc.store; clear huc; clear hB
 go_wp2_with fail
 obtain ⟨E, hE⟩ : ∃ E, scE f (.chars l) 1 l.length 1 = E := ⟨_, rfl⟩
 obtain ⟨V1, hV1⟩ : ∃ V1, scV f (.chars l) 1 l.length 1 = V1 := ⟨_, rfl⟩
 have HE := Lib.hid hE; have HV1 := Lib.hid hV1; clear hE hV1
 refine (scscan_at f _ (.chars l) 1 l.length 1 _ _ _ _ rfl rfl rfl HC.out HLL.out trivial (by show l.length = 1 * l.length * 1; omega) HLL.out (by decide) (by decide) HT.out).mono ?_
 rintro e W12 ⟨u1, rfl, hu1, hB⟩
 replace HB := cb hB HB; replace HT := HT.go hB; replace HV := HV.go hB; replace HC := HC.go hB; rw [HE.out]
 rw [HV1.out] at hu1
 have HU1 := Lib.hid (IsV.any hu1); have hs1 := HU1.out.store; clear hu1; clear hB
 obtain ⟨W13, hWn, hB, hNB⟩ := ahd1 W12 (u1) 25
 replace HB := cb hB HB; replace HT := HT.go hB; replace HV := HV.go hB; replace HC := HC.go hB; replace HU1 := HU1.go hB; have H1 := Lib.hid hNB; clear hNB hB; have cH10 := H1.out.2.1
 go_wp2_with fail
 clear hWn
 refine (vboxes_calls _ [] _ (Arrs.nil _ (fun _ => True)) (by decide) (fun p hp => by cases hp)).mono ?_
 rintro e W14 ⟨ub, rfl, hub, hB⟩
 clear cH10; replace HB := cb hB HB; replace HT := HT.go hB; replace HV := HV.go hB; replace HC := HC.go hB; replace HU1 := HU1.go hB; replace H1 := H1.go hB; have HBX := Lib.hid (IsV.any hub); have hsb := hub.store; clear hub; clear hB; have cH10 := H1.out.2.1
 go_wp2_with fail
 obtain ⟨G, hG⟩ : ∃ G, scE f (.boxes []) 0 1 1 = G := ⟨_, rfl⟩
 have HG := Lib.hid hG
 have HV2 := Lib.hid (show scV f (.boxes []) 0 1 1 = .none from scV_bad (by
  by_cases hk : fknown f = true
  ·rw [scE_24 hk (.inl rfl)]; decide
  ·rw [scE_1 (by simpa using hk)]; decide))
 clear hG
 refine (scscan_at f _ (.boxes []) 0 1 1 _ _ _ _ rfl rfl rfl HBX.out ⟨by decide, fun p hp => by cases hp⟩ trivial rfl (by decide) (by decide) (by decide) HT.out).mono ?_
 rintro e W15 ⟨u2, rfl, hu2, hB⟩
 clear cH10; replace HB := cb hB HB; replace HT := HT.go hB; replace HV := HV.go hB; replace HC := HC.go hB; replace HU1 := HU1.go hB; replace H1 := H1.go hB; replace HBX := HBX.go hB; rw [HG.out]
 rw [HV2.out] at hu2
 have HU2 := Lib.hid (IsV.any hu2); have hs2 := HU2.out.store; clear hu2; clear hB
 obtain ⟨W16, hWn, hB, hNB⟩ := ahd1 W15 (u2) 25
 replace HB := cb hB HB; replace HT := HT.go hB; replace HV := HV.go hB; replace HC := HC.go hB; replace HU1 := HU1.go hB; replace H1 := H1.go hB; replace HBX := HBX.go hB; replace HU2 := HU2.go hB; have H2 := Lib.hid hNB; clear hNB hB
 by_cases hk : fknown f = true
 rotate_left
 ·have HKN := Lib.hid (show fknown f = false by simpa using hk)
  have hE1 : E = 1 := by rw [← HE.out]; exact scE_1 HKN.out
  have hG1 : G = 1 := by rw [← HG.out]; exact scE_1 HKN.out
  have HVN := Lib.hid (show V1 = .none by rw [← HV1.out]; exact scV_bad (by rw [scE_1 HKN.out]; decide))
  rw [HVN.out] at HU1
  subst hE1 hG1
  clear hk; have cH10 := H1.out.2.1; have cH20 := H2.out.2.1
  go_wp2_with ((with_reducible refine (rfknown_calls f _).mono ?_); rintro e w' ⟨rfl, rfl⟩; rw [HKN.out])
  clear hWn
  refine (kind_calls _ .none _ HU1.out).mono ?_
  rintro e W17 ⟨rfl, hB⟩
  clear cH10 cH20; replace HB := cb hB HB; replace HT := HT.go hB; replace HV := HV.go hB; replace HC := HC.go hB; replace HU1 := HU1.go hB; replace H1 := H1.go hB; replace HBX := HBX.go hB; replace HU2 := HU2.go hB; replace H2 := H2.go hB; clear hB; have cH10 := H1.out.2.1; have cH20 := H2.out.2.1
  go_wp2_with fail
  refine (awake14_calls _ HT.out).mono ?_
  rintro e W18 ⟨rfl, hB⟩
  clear cH10 cH20; replace HB := cb hB HB; replace HT := HT.go hB; replace HV := HV.go hB; replace HC := HC.go hB; replace HU1 := HU1.go hB; replace H1 := H1.go hB; replace HBX := HBX.go hB; replace HU2 := HU2.go hB; replace H2 := H2.go hB; clear hB; have cH10 := H1.out.2.1; have cH20 := H2.out.2.1
  go_wp2_with fail
  go_ret
  exact ⟨rfl, HB.out⟩
 have HKN := Lib.hid hk
 have hG1 : G = 24 := by rw [← HG.out]; exact scE_24 hk (.inl rfl)
 subst hG1
 by_cases h1 : l.length ≤ 1
 ·have hE1 : E = 0 := by rw [← HE.out]; exact scE_one (V := .chars l) hk (show (1 : Int) ≠ 2 by decide) h1
  have HVN := Lib.hid (show V1 = .chars l by rw [← HV1.out, scV_one (scE_one (V := .chars l) hk (show (1 : Int) ≠ 2 by decide) h1) h1])
  rw [HVN.out] at HU1
  subst hE1
  have hb1 : (l.length : Int) ≤ 1 := by omega
  clear hk h1; have cH10 := H1.out.2.1; have cH20 := H2.out.2.1
  go_wp2_with ((with_reducible refine (rfknown_calls f _).mono ?_); rintro e w' ⟨rfl, rfl⟩; rw [HKN.out])
  clear hWn
  refine (vtext_calls _ (.chars l) _ HU1.out HLL.out).mono ?_
  rintro e W17 ⟨vt, rfl, hvt, hB⟩
  clear cH10 cH20; replace HB := cb hB HB; replace HT := HT.go hB; replace HV := HV.go hB; replace HC := HC.go hB; replace HU1 := HU1.go hB; replace H1 := H1.go hB; replace HBX := HBX.go hB; replace HU2 := HU2.go hB; replace H2 := H2.go hB; have HVT := Lib.hid hvt.any; clear hvt; clear hB; have cH10 := H1.out.2.1; have cH20 := H2.out.2.1
  go_wp2_with fail
  refine (runes_same _ _ l _ HVT.out HV.out HL2.out).mono ?_
  rintro e W18 ⟨rfl, hB⟩
  clear cH10 cH20; replace HB := cb hB HB; replace HT := HT.go hB; replace HV := HV.go hB; replace HC := HC.go hB; replace HU1 := HU1.go hB; replace H1 := H1.go hB; replace HBX := HBX.go hB; replace HU2 := HU2.go hB; replace H2 := H2.go hB; replace HVT := HVT.go hB; clear hB; have cH10 := H1.out.2.1; have cH20 := H2.out.2.1
  go_wp2_with fail
  refine (kind_calls _ (.chars l) _ HU1.out).mono ?_
  rintro e W19 ⟨rfl, hB⟩
  clear cH10 cH20; replace HB := cb hB HB; replace HT := HT.go hB; replace HV := HV.go hB; replace HC := HC.go hB; replace HU1 := HU1.go hB; replace H1 := H1.go hB; replace HBX := HBX.go hB; replace HU2 := HU2.go hB; replace H2 := H2.go hB; replace HVT := HVT.go hB; clear hB; have cH10 := H1.out.2.1; have cH20 := H2.out.2.1
  go_wp2_with fail
  refine (awake14_calls _ HT.out).mono ?_
  rintro e W20 ⟨rfl, hB⟩
  clear cH10 cH20; replace HB := cb hB HB; replace HT := HT.go hB; replace HV := HV.go hB; replace HC := HC.go hB; replace HU1 := HU1.go hB; replace H1 := H1.go hB; replace HBX := HBX.go hB; replace HU2 := HU2.go hB; replace H2 := H2.go hB; replace HVT := HVT.go hB; clear hB; have cH10 := H1.out.2.1; have cH20 := H2.out.2.1
  go_wp2_with fail
  go_ret
  exact ⟨rfl, HB.out⟩
 have hE1 : E = 24 := by rw [← HE.out]; exact scE_24 hk (.inr ⟨rfl, Nat.lt_of_not_le h1⟩)
 have HVN := Lib.hid (show V1 = .none by rw [← HV1.out]; exact scV_bad (by rw [scE_24 hk (.inr ⟨rfl, Nat.lt_of_not_le h1⟩)]; decide))
 rw [HVN.out] at HU1
 subst hE1
 have hb1 : ¬ (l.length : Int) ≤ 1 := by omega
 clear hk h1; have cH10 := H1.out.2.1; have cH20 := H2.out.2.1
 go_wp2_with ((with_reducible refine (rfknown_calls f _).mono ?_); rintro e w' ⟨rfl, rfl⟩; rw [HKN.out])
 clear hWn
 refine (kind_calls _ .none _ HU1.out).mono ?_
 rintro e W17 ⟨rfl, hB⟩
 clear cH10 cH20; replace HB := cb hB HB; replace HT := HT.go hB; replace HV := HV.go hB; replace HC := HC.go hB; replace HU1 := HU1.go hB; replace H1 := H1.go hB; replace HBX := HBX.go hB; replace HU2 := HU2.go hB; replace H2 := H2.go hB; clear hB; have cH10 := H1.out.2.1; have cH20 := H2.out.2.1
 go_wp2_with fail
 refine (kind_calls _ .none _ HU2.out).mono ?_
 rintro e W18 ⟨rfl, hB⟩
 clear cH10 cH20; replace HB := cb hB HB; replace HT := HT.go hB; replace HV := HV.go hB; replace HC := HC.go hB; replace HU1 := HU1.go hB; replace H1 := H1.go hB; replace HBX := HBX.go hB; replace HU2 := HU2.go hB; replace H2 := H2.go hB; clear hB; have cH10 := H1.out.2.1; have cH20 := H2.out.2.1
 go_wp2_with fail
 refine (awake14_calls _ HT.out).mono ?_
 rintro e W19 ⟨rfl, hB⟩
 clear cH10 cH20; replace HB := cb hB HB; replace HT := HT.go hB; replace HV := HV.go hB; replace HC := HC.go hB; replace HU1 := HU1.go hB; replace H1 := H1.go hB; replace HBX := HBX.go hB; replace HU2 := HU2.go hB; replace H2 := H2.go hB; clear hB; have cH10 := H1.out.2.1; have cH20 := H2.out.2.1
 go_wp2_with fail
 go_ret
 exact ⟨rfl, HB.out⟩

theorem scanOthers_frame (w : World) (f : Int) (_ : (Lit.int .i64 f).wf = true) (v : Value) (l : List Int) (hr : RowC w v (l.map (Value.int .i32))) (_ : ∀ z ∈ l, (Lit.int .i32 z).wf = true) (hl : l.length ≤ maxLen) (hT : TabAt w) :
  Calls Tryz.prog 5 #[.int .i64 f, v] w fun e w' => e = .returned (.bool true) ∧ Below w.heap.size w w' :=
 scanOthers_walk f v l w (by have := hr.slc; rw [List.length_map] at this; exact this) hl hT
end Go.Proofs.YtbacchbcanlciaaGreatDoor

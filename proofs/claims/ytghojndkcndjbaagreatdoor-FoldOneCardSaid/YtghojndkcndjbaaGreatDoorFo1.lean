/- Layer 13's law: FoldOne. -/
import Derived.Test.YtghojndkcndjbaaGreatDoorMgFo2
import Derived.Test.YtghojndkcndjbaaGreatDoorMgFo1
namespace Go.Proofs.YtghojndkcndjbaaGreatDoor
set_option maxRecDepth 100000
open Go.RowKit Fl
set_option linter.unusedVariables false

theorem sing_fin {x : Nat} (h : Num x) : ∀ z ∈ [x], Fnt z := fun z hz => by rw [List.mem_singleton.1 hz]; exact h.1
theorem sing_ze {x : Nat} (h : Num x) : [x].map ze = [x] := map_ze (fun z hz => by rw [List.mem_singleton.1 hz]; exact h)
set_option maxHeartbeats 16000000 in
theorem foldOne_walk (f : Int) (a b : Nat) (w : World) (hwa : a < 18446744073709551616) (hwb : b < 18446744073709551616) (hT : TabAt w) : Calls Tryz.prog 3 #[.int .i64 f, .float .f64 a, .float .f64 b] w (Yes13 w) := by
 have HT := Lib.hid hT; have HWA := Lib.hid hwa; have HWB := Lib.hid hwb
 have HB := Lib.hid (Below.refl w.heap.size w)
 obtain ⟨s, hs⟩ : ∃ s, fstart f = s := ⟨_, rfl⟩
 have HS := Lib.hid hs
 have HSN := Lib.hid (show Num s.1 by rw [← hs]; exact fstart_num f)
 obtain ⟨s1, hs1⟩ : ∃ s1, s.1 = s1 := ⟨_, rfl⟩
 obtain ⟨s2, hs2⟩ : ∃ s2, s.2 = s2 := ⟨_, rfl⟩
 have HS1 := Lib.hid hs1; have HS2 := Lib.hid hs2
 rw [hs1] at HSN
 obtain ⟨kn, hkn⟩ : ∃ kn, fknown f = kn := ⟨_, rfl⟩
 have HKN := Lib.hid hkn
 have hss : (s2 != s2) = false := by simp
 have hkk : (kn != kn) = false := by simp
 clear hT hwa hwb hs hs1 hs2 hkn
 by_cases hfa : Fnt a
 rotate_left
 ·by_cases hfb : Fnt b
  rotate_left
  ·have HFA := Lib.hid hfa; clear hfa; have HFB := Lib.hid hfb; clear hfb
   go_enter Tryz.func3, Tryz.ntmps3
   go_wp2_with (first | ((with_reducible refine (fostart_calls f _).mono ?_); rintro e w' ⟨rfl, rfl⟩; rw [HS.out, HS1.out, HS2.out]) | ((with_reducible refine (rtidy_non a _ HWA.out HFA.out).mono ?_); rintro e w' ⟨rfl, rfl⟩) | ((with_reducible refine (rtidy_non b _ HWB.out HFB.out).mono ?_); rintro e w' ⟨rfl, rfl⟩))
   refine (rfstart_calls f _).mono ?_
   rintro e W11 ⟨rfl, hB⟩
   replace HB := cb hB HB; replace HT := HT.go hB
   rw [HS.out, HS1.out, HS2.out]
   clear hB
   go_wp2_with (first | ((with_reducible refine (rtidy_non a _ HWA.out HFA.out).mono ?_); rintro e w' ⟨rfl, rfl⟩) | ((with_reducible refine (rtidy_non b _ HWB.out HFB.out).mono ?_); rintro e w' ⟨rfl, rfl⟩) | ((with_reducible refine (bits_same s1 _ HSN.out).mono ?_); rintro e w' ⟨rfl, rfl⟩) | ((with_reducible refine (foknown_calls f _).mono ?_); rintro e w' ⟨rfl, rfl⟩; rw [HKN.out]) | ((with_reducible refine (rfknown_calls f _).mono ?_); rintro e w' ⟨rfl, rfl⟩; rw [HKN.out]))
   refine (awake13_calls _ HT.out).mono ?_
   rintro e W12 ⟨rfl, hB⟩
   replace HB := cb hB HB; replace HT := HT.go hB; clear hB
   go_wp2_with fail
   go_ret
   exact ⟨rfl, HB.out⟩
  ·have HFA := Lib.hid hfa; clear hfa; have HFB := Lib.hid hfb
   obtain ⟨y, hy⟩ : ∃ y, ze b = y := ⟨_, rfl⟩
   have HYE := Lib.hid hy
   have NY := Lib.hid (show Num y by rw [← hy]; exact ze_num hfb)
   clear hfb hy
   go_enter Tryz.func3, Tryz.ntmps3
   go_wp2_with (first | ((with_reducible refine (fostart_calls f _).mono ?_); rintro e w' ⟨rfl, rfl⟩; rw [HS.out, HS1.out, HS2.out]) | ((with_reducible refine (rtidy_non a _ HWA.out HFA.out).mono ?_); rintro e w' ⟨rfl, rfl⟩) | ((with_reducible refine (rtidy_fin b _ HFB.out).mono ?_); rintro e w' ⟨rfl, rfl⟩; rw [HYE.out]))
   refine (rfstart_calls f _).mono ?_
   rintro e W11 ⟨rfl, hB⟩
   replace HB := cb hB HB; replace HT := HT.go hB
   rw [HS.out, HS1.out, HS2.out]
   clear hB
   go_wp2_with (first | ((with_reducible refine (rtidy_non a _ HWA.out HFA.out).mono ?_); rintro e w' ⟨rfl, rfl⟩) | ((with_reducible refine (rtidy_fin b _ HFB.out).mono ?_); rintro e w' ⟨rfl, rfl⟩; rw [HYE.out]) | ((with_reducible refine (bits_same s1 _ HSN.out).mono ?_); rintro e w' ⟨rfl, rfl⟩) | ((with_reducible refine (foknown_calls f _).mono ?_); rintro e w' ⟨rfl, rfl⟩; rw [HKN.out]) | ((with_reducible refine (rfknown_calls f _).mono ?_); rintro e w' ⟨rfl, rfl⟩; rw [HKN.out]))
   refine (awake13_calls _ HT.out).mono ?_
   rintro e W12 ⟨rfl, hB⟩
   replace HB := cb hB HB; replace HT := HT.go hB; clear hB
   go_wp2_with fail
   go_ret
   exact ⟨rfl, HB.out⟩
 ·by_cases hfb : Fnt b
  rotate_left
  ·have HFA := Lib.hid hfa
   obtain ⟨x, hx⟩ : ∃ x, ze a = x := ⟨_, rfl⟩
   have HXE := Lib.hid hx
   have NX := Lib.hid (show Num x by rw [← hx]; exact ze_num hfa)
   clear hfa hx; have HFB := Lib.hid hfb; clear hfb
   go_enter Tryz.func3, Tryz.ntmps3
   go_wp2_with (first | ((with_reducible refine (fostart_calls f _).mono ?_); rintro e w' ⟨rfl, rfl⟩; rw [HS.out, HS1.out, HS2.out]) | ((with_reducible refine (rtidy_fin a _ HFA.out).mono ?_); rintro e w' ⟨rfl, rfl⟩; rw [HXE.out]) | ((with_reducible refine (rtidy_non b _ HWB.out HFB.out).mono ?_); rintro e w' ⟨rfl, rfl⟩))
   refine (rfstart_calls f _).mono ?_
   rintro e W11 ⟨rfl, hB⟩
   replace HB := cb hB HB; replace HT := HT.go hB
   rw [HS.out, HS1.out, HS2.out]
   clear hB
   go_wp2_with (first | ((with_reducible refine (rtidy_fin a _ HFA.out).mono ?_); rintro e w' ⟨rfl, rfl⟩; rw [HXE.out]) | ((with_reducible refine (rtidy_non b _ HWB.out HFB.out).mono ?_); rintro e w' ⟨rfl, rfl⟩) | ((with_reducible refine (bits_same s1 _ HSN.out).mono ?_); rintro e w' ⟨rfl, rfl⟩) | ((with_reducible refine (foknown_calls f _).mono ?_); rintro e w' ⟨rfl, rfl⟩; rw [HKN.out]) | ((with_reducible refine (rfknown_calls f _).mono ?_); rintro e w' ⟨rfl, rfl⟩; rw [HKN.out]))
   refine (awake13_calls _ HT.out).mono ?_
   rintro e W12 ⟨rfl, hB⟩
   replace HB := cb hB HB; replace HT := HT.go hB; clear hB
   go_wp2_with fail
   go_ret
   exact ⟨rfl, HB.out⟩
  ·have HFA := Lib.hid hfa
   obtain ⟨x, hx⟩ : ∃ x, ze a = x := ⟨_, rfl⟩
   have HXE := Lib.hid hx
   have NX := Lib.hid (show Num x by rw [← hx]; exact ze_num hfa)
   clear hfa hx; have HFB := Lib.hid hfb
   obtain ⟨y, hy⟩ : ∃ y, ze b = y := ⟨_, rfl⟩
   have HYE := Lib.hid hy
   have NY := Lib.hid (show Num y by rw [← hy]; exact ze_num hfb)
   clear hfb hy
   go_enter Tryz.func3, Tryz.ntmps3
   go_wp2_with (first | ((with_reducible refine (fostart_calls f _).mono ?_); rintro e w' ⟨rfl, rfl⟩; rw [HS.out, HS1.out, HS2.out]) | ((with_reducible refine (rtidy_fin a _ HFA.out).mono ?_); rintro e w' ⟨rfl, rfl⟩; rw [HXE.out]) | ((with_reducible refine (rtidy_fin b _ HFB.out).mono ?_); rintro e w' ⟨rfl, rfl⟩; rw [HYE.out]))
   refine (rfstart_calls f _).mono ?_
   rintro e W11 ⟨rfl, hB⟩
   replace HB := cb hB HB; replace HT := HT.go hB
   rw [HS.out, HS1.out, HS2.out]
   clear hB
   go_wp2_with (first | ((with_reducible refine (rtidy_fin a _ HFA.out).mono ?_); rintro e w' ⟨rfl, rfl⟩; rw [HXE.out]) | ((with_reducible refine (rtidy_fin b _ HFB.out).mono ?_); rintro e w' ⟨rfl, rfl⟩; rw [HYE.out]) | ((with_reducible refine (bits_same s1 _ HSN.out).mono ?_); rintro e w' ⟨rfl, rfl⟩) | ((with_reducible refine (foknown_calls f _).mono ?_); rintro e w' ⟨rfl, rfl⟩; rw [HKN.out]) | ((with_reducible refine (rfknown_calls f _).mono ?_); rintro e w' ⟨rfl, rfl⟩; rw [HKN.out]))
   obtain ⟨p, hp⟩ : ∃ p, fone f x y = p := ⟨_, rfl⟩
   have HP := Lib.hid hp
   obtain ⟨p1, hp1⟩ : ∃ p1, p.1 = p1 := ⟨_, rfl⟩
   obtain ⟨p2, hp2⟩ : ∃ p2, p.2 = p2 := ⟨_, rfl⟩
   have HP1 := Lib.hid hp1; have HP2 := Lib.hid hp2
   have HPN := Lib.hid (show Num p1 by rw [← hp1, ← hp]; exact fone_num NX.out NY.out)
   have hpp : (p2 != p2) = false := by simp
   have hpq : (p2 == p2) = true := by simp
   clear hp hp1 hp2
   refine (foone_calls f x y _ NX.out NY.out).mono ?_
   rintro e W12 ⟨rfl, mm, hm⟩
   have hB : Below W11.heap.size W11 W12 := by rw [hm]; exact Below.drewN' (Below.refl _ _) mm
   rw [HP.out, HP1.out, HP2.out]
   clear hm; replace HB := cb hB HB; replace HT := HT.go hB; clear hB
   go_wp2_with fail
   refine (rfone_calls f x y _ NX.out NY.out).mono ?_
   rintro e W13 ⟨rfl, mm, hm⟩
   have hB : Below W12.heap.size W12 W13 := by rw [hm]; exact Below.drewN' (Below.refl _ _) mm
   rw [HP.out, HP1.out, HP2.out]
   clear hm; replace HB := cb hB HB; replace HT := HT.go hB; clear hB
   go_wp2_with fail
   refine (bits_same p1 _ HPN.out).mono ?_
   rintro e w' ⟨rfl, rfl⟩
   go_wp2_with fail
   obtain ⟨W14, hWn⟩ : ∃ xw9, W13.alloc (.cells #[.float .f64 x] 22) = xw9 := ⟨_, rfl⟩
   have hB : Below W13.heap.size W13 W14 := by rw [← hWn]; exact below_new _ _
   have hNB : Slc W14 (fun _ => True) (.slice (some ⟨W13.heap.size, 0, none⟩) 1 1) 1 (f64s [x]) := by
    rw [← hWn]; exact (Slc.owned (World.ownsRow_lit (base := 0) (e := 22) (size := 1) W13 #[.float .f64 x] 1 (Nat.zero_le _) (by unfold maxLen; omega) rfl)).keep (Kept.refl _ _) (fun _ _ _ => trivial)
   rw [hWn]; clear hWn; replace HB := cb hB HB; replace HT := HT.go hB; have HX := Lib.hid hNB; clear hNB hB
   refine (kept13_yes _ [x] 1 _ HX.out (by simp) (sing_fin NX.out) HT.out).mono ?_
   rintro e W15 ⟨ua, A, rfl, hu, hk, hB⟩
   replace HB := cb hB HB; replace HT := HT.go hB; replace HX := HX.go hB; have HU := Lib.hid (IsV.any hu)
   have HK := Lib.hid (show KepK [x] A from hk _ (congrArg some (sing_ze NX.out)))
   have hsua := hu.store; clear hu hk; clear hB; clear HX
   obtain ⟨W16, hWn, hB, hNB⟩ := ahd1 W15 (ua) 35
   replace HB := cb hB HB; replace HT := HT.go hB; replace HU := HU.go hB; have HA := Lib.hid hNB; clear hNB hB; have cHA0 := HA.out.2.1
   go_wp2_with fail
   clear hWn
   obtain ⟨W17, hWn⟩ : ∃ xw9, W16.alloc (.cells #[.float .f64 y] 22) = xw9 := ⟨_, rfl⟩
   have hB : Below W16.heap.size W16 W17 := by rw [← hWn]; exact below_new _ _
   have hNB : Slc W17 (fun _ => True) (.slice (some ⟨W16.heap.size, 0, none⟩) 1 1) 1 (f64s [y]) := by
    rw [← hWn]; exact (Slc.owned (World.ownsRow_lit (base := 0) (e := 22) (size := 1) W16 #[.float .f64 y] 1 (Nat.zero_le _) (by unfold maxLen; omega) rfl)).keep (Kept.refl _ _) (fun _ _ _ => trivial)
   rw [hWn]; clear hWn; clear cHA0; replace HB := cb hB HB; replace HT := HT.go hB; replace HU := HU.go hB; replace HA := HA.go hB; have HX := Lib.hid hNB; clear hNB hB
   refine (kept13_yes _ [y] 1 _ HX.out (by simp) (sing_fin NY.out) HT.out).mono ?_
   rintro e W18 ⟨ub, B, rfl, hu, hk, hB⟩
   replace HB := cb hB HB; replace HT := HT.go hB; replace HU := HU.go hB; replace HA := HA.go hB; replace HX := HX.go hB; have HU2 := Lib.hid (IsV.any hu)
   have HK2 := Lib.hid (show KepK [y] B from hk _ (congrArg some (sing_ze NY.out)))
   have hsub := hu.store; clear hu hk; clear hB; clear HX
   obtain ⟨W19, hWn, hB, hNB⟩ := ahd1 W18 (ub) 35
   replace HB := cb hB HB; replace HT := HT.go hB; replace HU := HU.go hB; replace HA := HA.go hB; replace HU2 := HU2.go hB; have HBB := Lib.hid hNB; clear hNB hB; have cHA0 := HA.out.2.1; have cHBB0 := HBB.out.2.1
   go_wp2_with fail
   clear hWn
   have HTW := Lib.hid (two_one (f := f) HK.out HK2.out)
   rw [HP.out, HP1.out, HP2.out] at HTW
   refine (fotwo_calls f _ _ A B _ HU.out HU2.out HK.out.1.1 HK2.out.1.1 HK.out.1.2.1 HK2.out.1.2.1 HT.out).mono ?_
   rintro e W20 ⟨uz, rfl, huz, hB⟩
   clear cHA0 cHBB0; replace HB := cb hB HB; replace HT := HT.go hB; replace HU := HU.go hB; replace HA := HA.go hB; replace HU2 := HU2.go hB; replace HBB := HBB.go hB
   rw [HTW.out.1]
   have HUZ := Lib.hid huz; have hsz := huz.store; clear huz; clear hB
   obtain ⟨W21, hWn, hB, hNB⟩ := ahd1 W20 (uz) 35
   replace HB := cb hB HB; replace HT := HT.go hB; replace HU := HU.go hB; replace HA := HA.go hB; replace HU2 := HU2.go hB; replace HBB := HBB.go hB; replace HUZ := HUZ.go hB; have HZ := Lib.hid hNB; clear hNB hB
   by_cases h0 : p2 = 0
   ·have HZN := Lib.hid (HTW.out.2.1 h0)
    have HZO := Lib.hid (HTW.out.2.2.2 h0)
    subst h0
    have cHA0 := HA.out.2.1; have cHBB0 := HBB.out.2.1; have cHZ0 := HZ.out.2.1
    go_wp2_with fail
    clear hWn
    refine (vnums_calls _ (twV f A B) _ HUZ.out HZO.out HT.out).mono ?_
    rintro e W22 ⟨vn, rfl, hvn, hB⟩
    clear cHA0 cHBB0 cHZ0; replace HB := cb hB HB; replace HT := HT.go hB; replace HU := HU.go hB; replace HA := HA.go hB; replace HU2 := HU2.go hB; replace HBB := HBB.go hB; replace HUZ := HUZ.go hB; replace HZ := HZ.go hB
    rw [HZN.out] at hvn
    have HVN := Lib.hid hvn.any; clear hvn; clear hB; have cHA0 := HA.out.2.1; have cHBB0 := HBB.out.2.1; have cHZ0 := HZ.out.2.1
    go_wp2_with fail
    obtain ⟨W23, hWn⟩ : ∃ xw9, W22.alloc (.cells #[.float .f64 p1] 22) = xw9 := ⟨_, rfl⟩
    have hB : Below W22.heap.size W22 W23 := by rw [← hWn]; exact below_new _ _
    have hNB : Slc W23 (fun _ => True) (.slice (some ⟨W22.heap.size, 0, none⟩) 1 1) 1 (f64s [p1]) := by
     rw [← hWn]; exact (Slc.owned (World.ownsRow_lit (base := 0) (e := 22) (size := 1) W22 #[.float .f64 p1] 1 (Nat.zero_le _) (by unfold maxLen; omega) rfl)).keep (Kept.refl _ _) (fun _ _ _ => trivial)
    rw [hWn]; clear hWn; clear cHA0 cHBB0 cHZ0; replace HB := cb hB HB; replace HT := HT.go hB; replace HU := HU.go hB; replace HA := HA.go hB; replace HU2 := HU2.go hB; replace HBB := HBB.go hB; replace HUZ := HUZ.go hB; replace HZ := HZ.go hB; replace HVN := HVN.go hB; have HL := Lib.hid hNB; clear hNB hB
    refine (floats_same _ _ [p1] _ HVN.out HL.out (by simp) (fun z hz => by rw [List.mem_singleton.1 hz]; exact HPN.out)).mono ?_
    rintro e W24 ⟨rfl, hB⟩
    replace HB := cb hB HB; replace HT := HT.go hB; replace HU := HU.go hB; replace HA := HA.go hB; replace HU2 := HU2.go hB; replace HBB := HBB.go hB; replace HUZ := HUZ.go hB; replace HZ := HZ.go hB; replace HVN := HVN.go hB; replace HL := HL.go hB; clear hB; have cHA0 := HA.out.2.1; have cHBB0 := HBB.out.2.1; have cHZ0 := HZ.out.2.1
    go_wp2_with fail
    refine (awake13_calls _ HT.out).mono ?_
    rintro e W25 ⟨rfl, hB⟩
    clear cHA0 cHBB0 cHZ0; replace HB := cb hB HB; replace HT := HT.go hB; replace HU := HU.go hB; replace HA := HA.go hB; replace HU2 := HU2.go hB; replace HBB := HBB.go hB; replace HUZ := HUZ.go hB; replace HZ := HZ.go hB; replace HVN := HVN.go hB; replace HL := HL.go hB; clear hB; have cHA0 := HA.out.2.1; have cHBB0 := HBB.out.2.1; have cHZ0 := HZ.out.2.1
    go_wp2_with fail
    go_ret
    exact ⟨rfl, HB.out⟩
   ·have hb0 : (p2 != 0) = true := by simp [h0]
    rw [HTW.out.2.2.1 h0] at HUZ
    clear h0; have cHA0 := HA.out.2.1; have cHBB0 := HBB.out.2.1; have cHZ0 := HZ.out.2.1
    go_wp2_with fail
    clear hWn
    refine (kind_calls _ .none _ HUZ.out).mono ?_
    rintro e W22 ⟨rfl, hB⟩
    clear cHA0 cHBB0 cHZ0; replace HB := cb hB HB; replace HT := HT.go hB; replace HU := HU.go hB; replace HA := HA.go hB; replace HU2 := HU2.go hB; replace HBB := HBB.go hB; replace HUZ := HUZ.go hB; replace HZ := HZ.go hB; clear hB; have cHA0 := HA.out.2.1; have cHBB0 := HBB.out.2.1; have cHZ0 := HZ.out.2.1
    go_wp2_with fail
    refine (awake13_calls _ HT.out).mono ?_
    rintro e W23 ⟨rfl, hB⟩
    clear cHA0 cHBB0 cHZ0; replace HB := cb hB HB; replace HT := HT.go hB; replace HU := HU.go hB; replace HA := HA.go hB; replace HU2 := HU2.go hB; replace HBB := HBB.go hB; replace HUZ := HUZ.go hB; replace HZ := HZ.go hB; clear hB; have cHA0 := HA.out.2.1; have cHBB0 := HBB.out.2.1; have cHZ0 := HZ.out.2.1
    go_wp2_with fail
    go_ret
    exact ⟨rfl, HB.out⟩

theorem foldOne_frame (w : World) (f : Int) (_ : (Lit.int .i64 f).wf = true) (a : Nat) (ha : (Lit.float .f64 a).wf = true) (b : Nat) (hb : (Lit.float .f64 b).wf = true) (hT : TabAt w) :
  Calls Tryz.prog 3 #[.int .i64 f, .float .f64 a, .float .f64 b] w fun e w' => e = .returned (.bool true) ∧ Below w.heap.size w w' := foldOne_walk f a b w (wf_f64 ha) (wf_f64 hb) hT
end Go.Proofs.YtghojndkcndjbaaGreatDoor

/- Layer 19, walked: has, Key, arrayKey. -/
import Derived.Test.YtbdhibcbpgjbmaaGreatDoorHaKa
import Derived.Test.YtbdhibcbpgjbmaaGreatDoorVaU
namespace Go.Proofs.YtbdhibcbpgjbmaaGreatDoor
open Go.RowKit Fl
set_option linter.unusedVariables false
set_option maxRecDepth 100000

theorem hhas1_yes {ok : Nat → Prop} (u : Value) (V : VV) (k : Nat) (w : World) (h : IsV w ok u V) (hk : k < V.len) : Calls Tryz.prog 53 #[.agg #[u], .int .i64 (k : Int)] w (BoolIs true w) := by
 have hsx := h.store
 have HV := Lib.hid (h.grow (below_new w (.cells #[u] 36)))
 have HB := Lib.hid (below_new w (.cells #[u] 36))
 clear h
 go_enter Tryz.func53, Tryz.ntmps53
 go_wp2_with fail
 refine (vlen_calls _ _ _ HV.out).mono ?_
 rintro e w2 ⟨rfl, hB⟩
 have HB2 := Lib.hid (HB.out.trans (hB.mono HB.out.size))
 clear hB
 go_wp2_with fail
 go_ret
 exact BoolIs.mk rfl HB2.out

def KeyAt (d : Nat) : Prop := ∀ (ok : Nat → Prop) (A : List Int × VV) (sh u : Value) (w : World), gA d A → IsArr w ok sh u A →
 Calls Tryz.prog 56 #[.agg #[sh, u]] w fun e w' => e = .returned (.int .u64 (kyP d (plA d A) : Int)) ∧ Below w.heap.size w w'
theorem kyI_one (t : PA → Nat) (c : Int) : kyI t (1, 0, c, []) = mxN (uN c) := by
 show (if (1 : Int) = 1 then _ else _) = _
 rw [if_pos rfl]
theorem kyI_two (t : PA → Nat) (q : PA) : kyI t (2, 0, 0, [q]) = t q := by
 show (if (2 : Int) = 1 then _ else if (2 : Int) = 2 then _ else _) = _
 rw [if_neg (by decide), if_pos rfl]; rfl
theorem kyI_zero (t : PA → Nat) (x : Nat) : kyI t (0, x, 0, []) = mxN x := by
 show (if (0 : Int) = 1 then _ else if (0 : Int) = 2 then _ else _) = _
 rw [if_neg (by decide), if_neg (by decide)]
theorem kyI_char {t : PA → Nat} {p : List Int × VV → PA} {V : VV} {i : Nat} (h : V.cls = 1) : kyI t (itA p V i) = mxN (uN (atI V.text 0 (i : Int))) := by
 rw [show itA p V i = (1, 0, atI V.text 0 (i : Int), []) by unfold itA; rw [if_pos h], kyI_one]
theorem kyI_box {t : PA → Nat} {p : List Int × VV → PA} {V : VV} {i : Nat} (h : V.cls = 2) : kyI t (itA p V i) = t (p (atI V.boxs ([], .none) (i : Int))) := by
 rw [show itA p V i = (2, 0, 0, [p (atI V.boxs ([], .none) (i : Int))]) by unfold itA; rw [if_neg (by omega), if_pos h], kyI_two]
theorem kyI_num {t : PA → Nat} {p : List Int × VV → PA} {V : VV} {i : Nat} (h1 : V.cls ≠ 1) (h : V.cls ≠ 2) : kyI t (itA p V i) = mxN (atI V.nums 0 (i : Int)) := by
 rw [show itA p V i = (0, atI V.nums 0 (i : Int), 0, []) by unfold itA; rw [if_neg h1, if_neg h], kyI_zero]

set_option maxHeartbeats 4000000 in
theorem hkey_at (d : Nat) (ih : KeyAt d) {ok : Nat → Prop} (u : Value) (V : VV) (k : Nat) (w : World) (hok : V.ok) (hnm : V.nm) (hbx : ∀ a ∈ V.boxs, gA d a) (hk : k < V.len) (hv : IsV w ok u V) :
  Calls Tryz.prog 24 #[.agg #[u], .int .i64 (k : Int)] w fun e w' => e = .returned (.int .u64 (kyI (kyP d) (itA (plA d) V k) : Int)) ∧ Below w.heap.size w w' := by
 have x1 := @run_callFunc_extern Tryz.prog 58 _ Extern.MathFloatBits.float64bits Tryz.func58 (by kernel_rfl) (by kernel_rfl) (by kernel_rfl) (by kernel_rfl)
 have x3 := run_bits Tryz.prog
 have HIH := Lib.hid ih; have HOK := Lib.hid hok; have HNM := Lib.hid hnm; have HBX := Lib.hid hbx; have HK := Lib.hid hk; have hsx := hv.store
 obtain ⟨W1, hW1⟩ : ∃ W1, W1 = w.alloc (.cells #[u] 36) := ⟨_, rfl⟩
 have HA := Lib.hid (show At1 W1 w.heap.size u by rw [hW1]; exact At1.new _ _ _)
 have HB := Lib.hid (show Below w.heap.size w W1 by rw [hW1]; exact below_new _ _)
 have HV := Lib.hid (hv.grow HB.out)
 have hfold := hW1.symm
 have cHA := HA.out.2.1; clear ih hok hnm hbx hk hv hW1
 go_enter Tryz.func24, Tryz.ntmps24
 go_wp2_with fail
 refine (hhas1_yes _ _ _ _ HV.out HK.out).mono ?_
 rintro e W2 ⟨rfl, hB⟩
 clear cHA hfold; replace HA := HA.go hB; replace HV := HV.go hB; replace HB := cb hB HB; clear hB; have cHA := HA.out.2.1
 go_wp2_with fail
 refine (class_calls _ _ _ HV.out).mono ?_
 rintro e W3 ⟨rfl, hB⟩
 clear cHA; replace HA := HA.go hB; replace HV := HV.go hB; replace HB := cb hB HB; clear hB; have cHA := HA.out.2.1
 by_cases hc1 : V.cls = 1
 ·have HR := Lib.hid (kyI_char (t := kyP d) (p := plA d) (i := k) hc1)
  rw [hc1]; clear hc1
  go_wp2_with fail
  refine (vchar_calls _ _ _ _ HV.out).mono ?_
  rintro e W4 ⟨rfl, hB⟩
  clear cHA; replace HB := cb hB HB; clear hB
  have HM := Lib.hid (hmixed_calls (uN (atI V.text 0 (k : Int))) W4 (uN_lt _))
  rw [uN_eq] at HM
  go_wp2_with fail
  refine HM.out.mono ?_
  rintro e W5 ⟨rfl, rfl⟩
  go_wp2_with fail
  go_ret
  exact ⟨by rw [HR.out]; rfl, HB.out⟩
 ·by_cases hc2 : V.cls = 2
  ·have HR := Lib.hid (kyI_box (t := kyP d) (p := plA d) (i := k) hc2)
   have HBL := Lib.hid (VV.boxs_len hc2)
   rw [hc2]; clear hc1 hc2
   go_wp2_with fail
   refine (vbox_calls _ _ _ _ HV.out HOK.out).mono ?_
   rintro e W4 ⟨sh, ux, rfl, hAr, hB⟩
   have HAR := Lib.hid hAr; clear cHA hAr; replace HB := cb hB HB; clear hB
   go_wp2_with fail
   refine (HIH.out _ _ _ _ _ (HBX.out _ (atI_mem (by rw [HBL.out]; exact HK.out))) HAR.out).mono ?_
   rintro e W5 ⟨rfl, hB⟩
   replace HB := cb hB HB; clear hB
   go_wp2_with fail
   go_ret
   exact ⟨by rw [HR.out]; rfl, HB.out⟩
  ·have HR := Lib.hid (kyI_num (t := kyP d) (p := plA d) (i := k) hc1 hc2)
   have h1 : (V.cls == 1) = false := by simpa using hc1
   have h2 : (V.cls == 2) = false := by simpa using hc2
   clear hc1 hc2
   go_wp2_with fail
   refine (num_calls _ _ _ _ HV.out).mono ?_
   rintro e W4 ⟨rfl, hB⟩
   clear cHA; replace HB := cb hB HB; clear hB
   have HM := Lib.hid (hmixed_calls (atI V.nums 0 (k : Int)) W4 (numV_any HOK.out HNM.out k).1.1)
   go_wp2_with fail
   refine HM.out.mono ?_
   rintro e W5 ⟨rfl, rfl⟩
   go_wp2_with fail
   go_ret
   exact ⟨by rw [HR.out]; rfl, HB.out⟩

set_option maxHeartbeats 4000000 in
theorem hkeyarr_step (d : Nat) (ih : KeyAt d) : KeyAt (d + 1) := by
 intro ok A sh u w hd hA
 obtain ⟨s, V⟩ := A
 obtain ⟨hpr, hok, hnm, _, hbx⟩ := hd
 obtain ⟨hs, hv⟩ := hA
 simp only at hpr hok hbx hnm hs hv
 obtain ⟨so, sc, rfl, e6, e7, _⟩ := hs.opened
 have hsl := (prodR_len hpr).1
 have hvl := VV.ok_len hok
 have HIH := Lib.hid ih; have HOK := Lib.hid hok; have HNM := Lib.hid hnm; have HBX := Lib.hid hbx; have hsx := hv.store
 obtain ⟨W1, hW1⟩ : ∃ W1, W1 = w.alloc (.cells #[.slice so s.length sc, u] 38) := ⟨_, rfl⟩
 have HA := Lib.hid (show At2 W1 w.heap.size (.slice so s.length sc) u by rw [hW1]; exact At2.new _ _ _ _)
 have HB := Lib.hid (show Below w.heap.size w W1 by rw [hW1]; exact below_new _ _)
 have HV := Lib.hid (hv.grow HB.out)
 have HS := Lib.hid (hs.below HB.out)
 obtain ⟨L, hL⟩ : ∃ L, (List.range V.len).map (itA (plA d) V) = L := ⟨_, rfl⟩
 have HLL := Lib.hid (show L.length = V.len by rw [← hL]; simp)
 have HLG := Lib.hid (show ∀ k (h : k < L.length), L[k] = itA (plA d) V k by rw [← hL]; intro k h; simp)
 have HRES := Lib.hid (show kyP (d + 1) (plA (d + 1) (s, V)) = kyL (kyP d) (kyS (mxN (uN V.cls)) s) L by rw [← hL]; rfl)
 have hfold := hW1.symm
 obtain ⟨_, a0, a1, _⟩ := HA.out
 clear hpr hok hnm hbx hs hv ih hW1 hL
 go_enter Tryz.func56, Tryz.ntmps56
 go_wp2_with fail
 refine (class_calls _ _ _ HV.out).mono ?_
 rintro e W2 ⟨rfl, hB⟩
 clear a0 a1 hfold; replace HA := HA.go hB; replace HV := HV.go hB; replace HS := HS.go hB; replace HB := cb hB HB; clear hB
 obtain ⟨_, a0, a1, _⟩ := HA.out
 have HM := Lib.hid (hmixed_calls (uN V.cls) W2 (uN_lt _))
 rw [uN_eq] at HM
 go_wp2_with fail
 refine HM.out.mono ?_
 rintro e W3 ⟨rfl, rfl⟩
 clear HM
 obtain ⟨k0, hk0⟩ : ∃ k0, mxN (uN V.cls) = k0 := ⟨_, rfl⟩
 have HK0 := Lib.hid (show k0 < 18446744073709551616 by rw [← hk0]; exact mxN_lt _)
 rw [hk0] at HRES ⊢
 clear hk0
 go_wp2_with fail
 go_loopw [3, 15] (fun v i wr => ∃ k : Nat, k ≤ s.length ∧ i = .int .i64 (k : Int) ∧ v = .int .u64 (kyS k0 (s.take k) : Int) ∧ wr = W2) (fun _ i _ => s.length - (intOf i).toNat)
 case atStart => exact ⟨0, by omega, rfl, rfl, rfl⟩
 case round =>
  obtain ⟨k, hk, rfl, rfl, hwr⟩ := hrel
  have hwr := hwr.symm
  subst hwr
  obtain ⟨kk, hkk⟩ : ∃ kk, kyS k0 (s.take k) = kk := ⟨_, rfl⟩
  have HKK := Lib.hid hkk
  have HKL := Lib.hid (show kk < 18446744073709551616 by rw [← hkk]; exact kyS_lt HK0.out)
  rw [hkk]; clear hkk
  by_cases hlt : k < s.length
  ·obtain ⟨b, off, cap2, x9, e9, hx9, hcx⟩ := Slc.at_map (Value.int .i64) (l := s) HS.out k hlt
   obtain rfl : x9 = s[k] := by rw [List.getElem?_eq_getElem hlt] at hx9; exact (Option.some.inj hx9).symm
   clear hx9
   have HJ := Lib.hid (hjoined_calls kk (uN s[k]) W2 HKL.out (uN_lt _))
   rw [uN_eq] at HJ
   have HSN := Lib.hid (show kyS k0 (s.take (k + 1)) = joN kk (uN s[k]) by rw [kyS_snoc _ _ _ hlt, HKK.out])
   obtain ⟨sk, hsk⟩ : ∃ sk, s[k] = sk := ⟨_, rfl⟩
   rw [hsk] at hcx HJ HSN
   cases e9
   clear hsk
   go_wp2_with fail
   refine HJ.out.mono ?_
   rintro e W9 ⟨rfl, rfl⟩
   go_wp2
   go_roundw
   case rel => exact ⟨k + 1, by omega, by go_num, by rw [HSN.out], trivial⟩
   case measure => simp [intOf]; omega
  ·have hkl : k = s.length := by omega
   have HK2 := Lib.hid (show kk = kyS k0 s by rw [← HKK.out, hkl, List.take_length])
   rw [← HK2.out] at HRES
   clear hkl HKK
   have hnlt := hlt
   go_wp2_with fail
   refine (vlen_calls _ _ _ HV.out).mono ?_
   rintro e W4 ⟨rfl, hB⟩
   clear a0 a1; replace HA := HA.go hB; replace HV := HV.go hB; replace HB := cb hB HB; clear hB hnlt hlt
   obtain ⟨n, hn⟩ : ∃ n, V.len = n := ⟨_, rfl⟩
   have HN := Lib.hid hn
   rw [hn] at HLL hvl ⊢
   clear hn
   go_wp2_with fail
   go_loopw [3, 27] (fun v i wq => ∃ j : Nat, j ≤ n ∧ i = .int .i64 (j : Int) ∧ v = .int .u64 (kyL (kyP d) kk (L.take j) : Int) ∧ Below W4.heap.size W4 wq) (fun _ i _ => n - (intOf i).toNat)
   case atStart => exact ⟨0, by omega, rfl, rfl, Below.refl _ _⟩
   case round =>
    obtain ⟨j, hj, rfl, rfl, hBq⟩ := hrel
    have HBQ := Lib.hid hBq; clear hBq
    obtain ⟨kx, hkx⟩ : ∃ kx, kyL (kyP d) kk (L.take j) = kx := ⟨_, rfl⟩
    have HKX := Lib.hid hkx
    have HKXL := Lib.hid (show kx < 18446744073709551616 by rw [← hkx]; exact kyL_lt HKL.out)
    rw [hkx]; clear hkx
    have HAq := Lib.hid (HA.out.below HBQ.out)
    have HVq := Lib.hid (HV.out.grow HBQ.out)
    obtain ⟨_, a0, a1, _⟩ := HAq.out
    by_cases hlt : j < n
    ·have HSN := Lib.hid (show kyL (kyP d) kk (L.take (j + 1)) = joN kx (kyI (kyP d) (itA (plA d) V j)) by
      rw [kyL_snoc _ _ _ _ (by rw [HLL.out]; exact hlt), HKX.out, HLG.out])
     go_wp2_with fail
     refine (hkey_at d HIH.out _ _ _ _ HOK.out HNM.out HBX.out (by rw [HN.out]; exact hlt) HVq.out).mono ?_
     rintro e W5 ⟨rfl, hB⟩
     clear a0 a1; replace HBQ := cb hB HBQ; clear hB
     go_wp2_with fail
     refine (hjoined_calls kx _ _ HKXL.out (kyI_lt _ _)).mono ?_
     rintro e W6 ⟨rfl, rfl⟩
     go_wp2
     go_roundw
     case rel => exact ⟨j + 1, by omega, by go_num, by rw [HSN.out], HBQ.out⟩
     case measure => simp [intOf]; omega
    ·have hjl : j = n := by omega
     have HE := Lib.hid (show kx = kyL (kyP d) kk L by rw [← HKX.out, hjl, ← HLL.out, List.take_length])
     clear hjl
     go_wp2
     go_ret
     exact ⟨by rw [HRES.out, HE.out]; rfl, HB.out.trans (HBQ.out.mono HB.out.size)⟩
theorem hkeyarr_calls : ∀ d, KeyAt d := by
 intro d
 induction d with
 | zero => intro ok A sh u w h; exact h.elim
 | succ d ih => exact hkeyarr_step d ih
end Go.Proofs.YtbdhibcbpgjbmaaGreatDoor

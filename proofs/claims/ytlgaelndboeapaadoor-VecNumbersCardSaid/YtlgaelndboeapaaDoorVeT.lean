/- VecNumbers, walked. -/
import Derived.Test.YtlgaelndboeapaaDoorVeS
namespace Go.Proofs.YtlgaelndboeapaaDoor
open Go.RowKit Fl
set_option linter.unusedVariables false
set_option maxRecDepth 8000

set_option maxHeartbeats 8000000 in
theorem vecNumbers_yy (w : World) (v1 : Value) (l : List Int) (HS1 : Hid (Slc w (fun _ => True) v1 l.length (ints l))) (v2 : Value) (m : List Nat) (HS2 : Hid (Slc w (fun _ => True) v2 m.length (f64s m))) (HT : Hid (TabAt w)) (hl1 : l.length ≤ 500) (hl2 : m.length ≤ 500) (hsm : l.all sm = true) (HF : Hid (∀ x ∈ m, Fnt x)) :
    Calls Tryd.prog 4 #[v1, v2] w fun e w' => e = .returned (.bool true) ∧ Below w.heap.size w w' := by
  obtain ⟨i0, hi, hz0, hz1, hz3⟩ := info_parts info_f64
  have HSM := Lib.hid hsm
  have HL1 := Lib.hid (show l.length ≤ 2000000 by omega)
  have HL2 := Lib.hid (show m.length ≤ 2000000 by omega)
  have HOK1 : Hid ((VV.ints l).ok) := Lib.hid (show l.length ≤ 1048576 by omega)
  have HOK2 : Hid ((VV.floats (m.map ze)).ok) := Lib.hid (show (m.map ze).length ≤ 1048576 by rw [List.length_map]; omega)
  obtain ⟨ao1, cap1, rfl, _⟩ := HS1.out.opened
  obtain ⟨ao2, cap2, rfl, _⟩ := HS2.out.opened
  have hcv : ∀ n w, (convert 2 26 (.int .i64 n)).run Tryd.prog w = .ok (.float .f64 (floatOfInt .f64 n)) w := fun n w => run_convert_int_float w 2 26 .i64 .f64 n (by kernel_rfl) (by kernel_rfl)
  have hst := run_store_float
  clear hsm
  have HB := Lib.hid (Below.refl w.heap.size w)
  go_enter Tryd.func4, Tryd.ntmps4
  go_wp2_with fail
  refine (vints_yes _ l _ HS1.out HL1.out HSM.out).mono ?_
  rintro e W1 ⟨u, rfl, hu, hB⟩
  replace HS1 := Lib.hid (HS1.out.below hB)
  replace HS2 := Lib.hid (HS2.out.below hB)
  replace HT := Lib.hid (fun j hj => keep_below hB _ _ (HT.out j hj))
  replace HB := Lib.hid (HB.out.trans (hB.mono HB.out.size))
  have hstu := hu.store
  have HU := Lib.hid hu.any
  clear hu
  clear hB
  obtain ⟨W2, hWn⟩ : ∃ W2, (W1.alloc (.cells #[u] 29)) = W2 := ⟨_, rfl⟩
  have hB : Below W1.heap.size W1 W2 := by rw [← hWn]; exact (below_new _ _)
  replace HS1 := Lib.hid (HS1.out.below hB)
  replace HS2 := Lib.hid (HS2.out.below hB)
  replace HT := Lib.hid (fun j hj => keep_below hB _ _ (HT.out j hj))
  replace HU := Lib.hid (HU.out.grow hB)
  replace HB := Lib.hid (HB.out.trans (hB.mono HB.out.size))
  have HAU := Lib.hid (show At1 W2 W1.heap.size (u) by rw [← hWn]; exact At1.new W1 (u) 29)
  clear hB
  have cHAU := HAU.out.2.1
  go_wp2_with fail
  clear hWn
  refine (vfloats_yes _ m _ HS2.out HL2.out HF.out).mono ?_
  clear cHAU
  rintro e W3 ⟨x, rfl, hu, hB⟩
  replace HS1 := Lib.hid (HS1.out.below hB)
  replace HS2 := Lib.hid (HS2.out.below hB)
  replace HT := Lib.hid (fun j hj => keep_below hB _ _ (HT.out j hj))
  replace HU := Lib.hid (HU.out.grow hB)
  replace HAU := Lib.hid (HAU.out.below hB)
  replace HB := Lib.hid (HB.out.trans (hB.mono HB.out.size))
  have hstx := hu.store
  have HX := Lib.hid hu.any
  clear hu
  clear hB
  have cHAU := HAU.out.2.1
  obtain ⟨W4, hWn⟩ : ∃ W4, (W3.alloc (.cells #[x] 29)) = W4 := ⟨_, rfl⟩
  have hB : Below W3.heap.size W3 W4 := by rw [← hWn]; exact (below_new _ _)
  clear cHAU
  replace HS1 := Lib.hid (HS1.out.below hB)
  replace HS2 := Lib.hid (HS2.out.below hB)
  replace HT := Lib.hid (fun j hj => keep_below hB _ _ (HT.out j hj))
  replace HU := Lib.hid (HU.out.grow hB)
  replace HAU := Lib.hid (HAU.out.below hB)
  replace HX := Lib.hid (HX.out.grow hB)
  replace HB := Lib.hid (HB.out.trans (hB.mono HB.out.size))
  have HAX := Lib.hid (show At1 W4 W3.heap.size (x) by rw [← hWn]; exact At1.new W3 (x) 29)
  clear hB
  have cHAU := HAU.out.2.1
  have cHAX := HAX.out.2.1
  go_wp2_with fail
  clear hWn
  refine (rtidys_yes _ m _ HS2.out HL2.out HF.out).mono ?_
  clear cHAU cHAX
  rintro e W5 ⟨vt, rfl, hs, hB⟩
  replace HS1 := Lib.hid (HS1.out.below hB)
  replace HS2 := Lib.hid (HS2.out.below hB)
  replace HT := Lib.hid (fun j hj => keep_below hB _ _ (HT.out j hj))
  replace HU := Lib.hid (HU.out.grow hB)
  replace HAU := Lib.hid (HAU.out.below hB)
  replace HX := Lib.hid (HX.out.grow hB)
  replace HAX := Lib.hid (HAX.out.below hB)
  replace HB := Lib.hid (HB.out.trans (hB.mono HB.out.size))
  have HTS := Lib.hid hs.any
  clear hs
  clear hB
  have cHAU := HAU.out.2.1
  have cHAX := HAX.out.2.1
  go_wp2_with fail
  refine (Calls.grow_same (rsmalls_calls _ l _ HS1.out (by have := HL1.out; omega))).mono ?_
  clear cHAU cHAX
  rintro e W6 ⟨rfl, hB⟩
  replace HS1 := Lib.hid (HS1.out.below hB)
  replace HS2 := Lib.hid (HS2.out.below hB)
  replace HT := Lib.hid (fun j hj => keep_below hB _ _ (HT.out j hj))
  replace HU := Lib.hid (HU.out.grow hB)
  replace HAU := Lib.hid (HAU.out.below hB)
  replace HX := Lib.hid (HX.out.grow hB)
  replace HAX := Lib.hid (HAX.out.below hB)
  replace HTS := Lib.hid (HTS.out.below hB)
  replace HB := Lib.hid (HB.out.trans (hB.mono HB.out.size))
  rw [HSM.out]
  clear hB
  have cHAU := HAU.out.2.1
  have cHAX := HAX.out.2.1
  go_wp2
  go_loopw [11, 12] (fun v i wr => ∃ k : Nat, k ≤ l.length ∧ i = .int .i64 k ∧ wr.ownsRow W6.heap.size 26 1 v k (f64s ((l.take k).map (floatOfInt .f64))) ∧ Below W6.heap.size W6 wr) (fun _ i _ => l.length - (intOf i).toNat)
  case atStart => exact ⟨0, by omega, rfl, World.ownsRow_nil _ _ _ _, Below.refl _ _⟩
  case round =>
    obtain ⟨k, hk, rfl, hown, hB⟩ := hrel
    have HO := Lib.hid hown
    have HBr := Lib.hid hB
    have hsz := hB.size
    by_cases hlt : k < l.length
    · obtain ⟨bb, off, cap', x0, e1, hx, hcx⟩ := Slc.at_map (Value.int .i64) HS1.out k hlt
      obtain ⟨e1a, e1b⟩ : ao1 = some ⟨bb, off, none⟩ ∧ cap1 = cap' := by cases e1; exact ⟨rfl, rfl⟩
      subst e1a
      have hcl := keep_below hB _ _ hcx
      have HTK := Lib.hid (show (l.take (k + 1)).map (floatOfInt .f64) = (l.take k).map (floatOfInt .f64) ++ [floatOfInt .f64 x0] by rw [List.take_succ_eq_append_getElem hlt, List.map_append, (List.getElem?_eq_some_iff.1 hx).2]; rfl)
      clear hown hB hcx hx e1 e1b
      go_wp2_with (at_builtin; refine wpList_append_own _ rfl _ _ 25 rfl W6.heap.size 26 i0 (.float .f64 0) 1 8 Tryd.underlying25 hi hz0 hz1 hz3 rfl (by decide) _ _ _ rfl (HO.out.alloc _) ⟨wr.heap.size, 0, none⟩ 1 1 [.float .f64 (floatOfInt .f64 x0)] rfl rfl ?c1 ?c2 ?c3 ?c4 ?c5 ?_)
      case c1 =>
        intro j u hj
        match j, hj with
        | 0, hj => simp at hj; subst hj; simp [Addr.add]
      case c2 => intro u hu; simp at hu; subst hu; rfl
      case c3 => unfold maxLen; omega
      case c4 => omega
      case c5 => simp; omega
      intro v' w3 hown' hgrow _
      have HO3 := Lib.hid hown'
      have HB3 := Lib.hid (grown_below (HBr.out.alloc hsz _) (HO.out.alloc _) (Nat.le_refl _) (by simp; omega) hgrow)
      clear hown' hgrow
      go_wp2
      go_roundw
      case rel =>
        refine ⟨k + 1, by omega, by go_num, ?_, HB3.out⟩
        have := HO3.out
        rw [HTK.out]
        simpa [f64s] using this
      case measure => simp [intOf]; omega
    · have hkl : k = l.length := by omega
      have HXS := Lib.hid (show Slc wr (fun q => W6.heap.size ≤ q) u11 l.length (f64s (l.map (floatOfInt .f64))) by have := Slc.owned hown; rwa [hkl, List.take_length] at this)
      replace HS1 := Lib.hid (HS1.out.below hB)
      replace HS2 := Lib.hid (HS2.out.below hB)
      replace HT := Lib.hid (fun j hj => keep_below hB _ _ (HT.out j hj))
      replace HU := Lib.hid (HU.out.grow hB)
      replace HAU := Lib.hid (HAU.out.below hB)
      replace HX := Lib.hid (HX.out.grow hB)
      replace HAX := Lib.hid (HAX.out.below hB)
      replace HTS := Lib.hid (HTS.out.below hB)
      replace HB := Lib.hid (HB.out.trans (hB.mono HB.out.size))
      clear hown hB hkl hst hcv
      have cHAU := HAU.out.2.1
      have cHAX := HAX.out.2.1
      go_wp2_with fail
      refine (shows_whole u _ (.ints l) _ HU.out HOK1.out HT.out (show Slc _ _ _ (VV.ints l).nums.length _ by simp only [VV.nums, List.length_map]; exact HXS.out) (by intro y hy; simp only [VV.nums, List.mem_map] at hy; obtain ⟨c, hc, rfl⟩ := hy; exact num_ofInt c (List.all_eq_true.1 HSM.out c hc)) (by simp [VV.nums, VV.len]) rfl rfl rfl rfl rfl).mono ?_
      clear cHAU cHAX
      rintro e W7 ⟨rfl, hB⟩
      replace HS1 := Lib.hid (HS1.out.below hB)
      replace HS2 := Lib.hid (HS2.out.below hB)
      replace HT := Lib.hid (fun j hj => keep_below hB _ _ (HT.out j hj))
      replace HU := Lib.hid (HU.out.grow hB)
      replace HAU := Lib.hid (HAU.out.below hB)
      replace HX := Lib.hid (HX.out.grow hB)
      replace HAX := Lib.hid (HAX.out.below hB)
      replace HTS := Lib.hid (HTS.out.below hB)
      replace HXS := Lib.hid (HXS.out.below hB)
      replace HB := Lib.hid (HB.out.trans (hB.mono HB.out.size))
      clear hB
      have cHAU := HAU.out.2.1
      have cHAX := HAX.out.2.1
      go_wp2_with fail
      refine (shows_other x _ (.floats (m.map ze)) _ HX.out HOK2.out HT.out (show Slc _ _ _ (VV.floats (m.map ze)).nums.length _ by simp only [VV.nums, List.length_map]; exact HTS.out) (by intro y hy; simp only [VV.nums, List.mem_map] at hy; obtain ⟨c, hc, rfl⟩ := hy; exact ze_num (HF.out c hc)) rfl rfl rfl rfl rfl rfl).mono ?_
      clear cHAU cHAX
      rintro e W8 ⟨rfl, hB⟩
      replace HS1 := Lib.hid (HS1.out.below hB)
      replace HS2 := Lib.hid (HS2.out.below hB)
      replace HT := Lib.hid (fun j hj => keep_below hB _ _ (HT.out j hj))
      replace HU := Lib.hid (HU.out.grow hB)
      replace HAU := Lib.hid (HAU.out.below hB)
      replace HX := Lib.hid (HX.out.grow hB)
      replace HAX := Lib.hid (HAX.out.below hB)
      replace HTS := Lib.hid (HTS.out.below hB)
      replace HXS := Lib.hid (HXS.out.below hB)
      replace HB := Lib.hid (HB.out.trans (hB.mono HB.out.size))
      clear hB
      have cHAU := HAU.out.2.1
      have cHAX := HAX.out.2.1
      go_wp2_with fail
      refine (awake4_calls _).mono ?_
      clear cHAU cHAX
      rintro e W9 ⟨rfl, hB⟩
      replace HS1 := Lib.hid (HS1.out.below hB)
      replace HS2 := Lib.hid (HS2.out.below hB)
      replace HT := Lib.hid (fun j hj => keep_below hB _ _ (HT.out j hj))
      replace HU := Lib.hid (HU.out.grow hB)
      replace HAU := Lib.hid (HAU.out.below hB)
      replace HX := Lib.hid (HX.out.grow hB)
      replace HAX := Lib.hid (HAX.out.below hB)
      replace HTS := Lib.hid (HTS.out.below hB)
      replace HXS := Lib.hid (HXS.out.below hB)
      replace HB := Lib.hid (HB.out.trans (hB.mono HB.out.size))
      clear hB
      have cHAU := HAU.out.2.1
      have cHAX := HAX.out.2.1
      go_wp2
      go_ret
      exact ⟨rfl, HB.out⟩

set_option maxHeartbeats 8000000 in
theorem vecNumbers_yn (w : World) (v1 : Value) (l : List Int) (HS1 : Hid (Slc w (fun _ => True) v1 l.length (ints l))) (v2 : Value) (m : List Nat) (HS2 : Hid (Slc w (fun _ => True) v2 m.length (f64s m))) (HT : Hid (TabAt w)) (hl1 : l.length ≤ 500) (hl2 : m.length ≤ 500) (hsm : l.all sm = true) (HWF : Hid (∀ x ∈ m, x < 18446744073709551616)) (HF : Hid (∃ x ∈ m, ¬ Fnt x)) :
    Calls Tryd.prog 4 #[v1, v2] w fun e w' => e = .returned (.bool true) ∧ Below w.heap.size w w' := by
  obtain ⟨i0, hi, hz0, hz1, hz3⟩ := info_parts info_f64
  have HSM := Lib.hid hsm
  have HL1 := Lib.hid (show l.length ≤ 2000000 by omega)
  have HL2 := Lib.hid (show m.length ≤ 2000000 by omega)
  have HOK1 : Hid ((VV.ints l).ok) := Lib.hid (show l.length ≤ 1048576 by omega)
  have HOK2 : Hid ((VV.floats (m.map ze)).ok) := Lib.hid (show (m.map ze).length ≤ 1048576 by rw [List.length_map]; omega)
  obtain ⟨ao1, cap1, rfl, _⟩ := HS1.out.opened
  obtain ⟨ao2, cap2, rfl, _⟩ := HS2.out.opened
  have hcv : ∀ n w, (convert 2 26 (.int .i64 n)).run Tryd.prog w = .ok (.float .f64 (floatOfInt .f64 n)) w := fun n w => run_convert_int_float w 2 26 .i64 .f64 n (by kernel_rfl) (by kernel_rfl)
  have hst := run_store_float
  clear hsm
  have HB := Lib.hid (Below.refl w.heap.size w)
  go_enter Tryd.func4, Tryd.ntmps4
  go_wp2_with fail
  refine (vints_yes _ l _ HS1.out HL1.out HSM.out).mono ?_
  rintro e W1 ⟨u, rfl, hu, hB⟩
  replace HS1 := Lib.hid (HS1.out.below hB)
  replace HS2 := Lib.hid (HS2.out.below hB)
  replace HT := Lib.hid (fun j hj => keep_below hB _ _ (HT.out j hj))
  replace HB := Lib.hid (HB.out.trans (hB.mono HB.out.size))
  have hstu := hu.store
  have HU := Lib.hid hu.any
  clear hu
  clear hB
  obtain ⟨W2, hWn⟩ : ∃ W2, (W1.alloc (.cells #[u] 29)) = W2 := ⟨_, rfl⟩
  have hB : Below W1.heap.size W1 W2 := by rw [← hWn]; exact (below_new _ _)
  replace HS1 := Lib.hid (HS1.out.below hB)
  replace HS2 := Lib.hid (HS2.out.below hB)
  replace HT := Lib.hid (fun j hj => keep_below hB _ _ (HT.out j hj))
  replace HU := Lib.hid (HU.out.grow hB)
  replace HB := Lib.hid (HB.out.trans (hB.mono HB.out.size))
  have HAU := Lib.hid (show At1 W2 W1.heap.size (u) by rw [← hWn]; exact At1.new W1 (u) 29)
  clear hB
  have cHAU := HAU.out.2.1
  go_wp2_with fail
  clear hWn
  refine (vfloats_no _ m _ HS2.out HL2.out HWF.out HF.out).mono ?_
  clear cHAU
  rintro e W3 ⟨x, rfl, hu, hB⟩
  replace HS1 := Lib.hid (HS1.out.below hB)
  replace HS2 := Lib.hid (HS2.out.below hB)
  replace HT := Lib.hid (fun j hj => keep_below hB _ _ (HT.out j hj))
  replace HU := Lib.hid (HU.out.grow hB)
  replace HAU := Lib.hid (HAU.out.below hB)
  replace HB := Lib.hid (HB.out.trans (hB.mono HB.out.size))
  have hstx := hu.store
  have HX := Lib.hid hu.any
  clear hu
  clear hB
  have cHAU := HAU.out.2.1
  obtain ⟨W4, hWn⟩ : ∃ W4, (W3.alloc (.cells #[x] 29)) = W4 := ⟨_, rfl⟩
  have hB : Below W3.heap.size W3 W4 := by rw [← hWn]; exact (below_new _ _)
  clear cHAU
  replace HS1 := Lib.hid (HS1.out.below hB)
  replace HS2 := Lib.hid (HS2.out.below hB)
  replace HT := Lib.hid (fun j hj => keep_below hB _ _ (HT.out j hj))
  replace HU := Lib.hid (HU.out.grow hB)
  replace HAU := Lib.hid (HAU.out.below hB)
  replace HX := Lib.hid (HX.out.grow hB)
  replace HB := Lib.hid (HB.out.trans (hB.mono HB.out.size))
  have HAX := Lib.hid (show At1 W4 W3.heap.size (x) by rw [← hWn]; exact At1.new W3 (x) 29)
  clear hB
  have cHAU := HAU.out.2.1
  have cHAX := HAX.out.2.1
  go_wp2_with fail
  clear hWn
  refine (rtidys_no _ m _ HS2.out HL2.out HWF.out HF.out).mono ?_
  clear cHAU cHAX
  rintro e W5 ⟨rfl, hB⟩
  replace HS1 := Lib.hid (HS1.out.below hB)
  replace HS2 := Lib.hid (HS2.out.below hB)
  replace HT := Lib.hid (fun j hj => keep_below hB _ _ (HT.out j hj))
  replace HU := Lib.hid (HU.out.grow hB)
  replace HAU := Lib.hid (HAU.out.below hB)
  replace HX := Lib.hid (HX.out.grow hB)
  replace HAX := Lib.hid (HAX.out.below hB)
  replace HB := Lib.hid (HB.out.trans (hB.mono HB.out.size))
  clear hB
  have cHAU := HAU.out.2.1
  have cHAX := HAX.out.2.1
  go_wp2_with fail
  refine (Calls.grow_same (rsmalls_calls _ l _ HS1.out (by have := HL1.out; omega))).mono ?_
  clear cHAU cHAX
  rintro e W6 ⟨rfl, hB⟩
  replace HS1 := Lib.hid (HS1.out.below hB)
  replace HS2 := Lib.hid (HS2.out.below hB)
  replace HT := Lib.hid (fun j hj => keep_below hB _ _ (HT.out j hj))
  replace HU := Lib.hid (HU.out.grow hB)
  replace HAU := Lib.hid (HAU.out.below hB)
  replace HX := Lib.hid (HX.out.grow hB)
  replace HAX := Lib.hid (HAX.out.below hB)
  replace HB := Lib.hid (HB.out.trans (hB.mono HB.out.size))
  rw [HSM.out]
  clear hB
  have cHAU := HAU.out.2.1
  have cHAX := HAX.out.2.1
  go_wp2_with fail
  refine (kind_calls _ _ _ HX.out).mono ?_
  clear cHAU cHAX
  rintro e W7 ⟨rfl, hB⟩
  replace HS1 := Lib.hid (HS1.out.below hB)
  replace HS2 := Lib.hid (HS2.out.below hB)
  replace HT := Lib.hid (fun j hj => keep_below hB _ _ (HT.out j hj))
  replace HU := Lib.hid (HU.out.grow hB)
  replace HAU := Lib.hid (HAU.out.below hB)
  replace HX := Lib.hid (HX.out.grow hB)
  replace HAX := Lib.hid (HAX.out.below hB)
  replace HB := Lib.hid (HB.out.trans (hB.mono HB.out.size))
  simp only [VV.kind]
  clear hB
  have cHAU := HAU.out.2.1
  have cHAX := HAX.out.2.1
  go_wp2
  go_loopw [11, 12] (fun v i wr => ∃ k : Nat, k ≤ l.length ∧ i = .int .i64 k ∧ wr.ownsRow W7.heap.size 26 1 v k (f64s ((l.take k).map (floatOfInt .f64))) ∧ Below W7.heap.size W7 wr) (fun _ i _ => l.length - (intOf i).toNat)
  case atStart => exact ⟨0, by omega, rfl, World.ownsRow_nil _ _ _ _, Below.refl _ _⟩
  case round =>
    obtain ⟨k, hk, rfl, hown, hB⟩ := hrel
    have HO := Lib.hid hown
    have HBr := Lib.hid hB
    have hsz := hB.size
    by_cases hlt : k < l.length
    · obtain ⟨bb, off, cap', x0, e1, hx, hcx⟩ := Slc.at_map (Value.int .i64) HS1.out k hlt
      obtain ⟨e1a, e1b⟩ : ao1 = some ⟨bb, off, none⟩ ∧ cap1 = cap' := by cases e1; exact ⟨rfl, rfl⟩
      subst e1a
      have hcl := keep_below hB _ _ hcx
      have HTK := Lib.hid (show (l.take (k + 1)).map (floatOfInt .f64) = (l.take k).map (floatOfInt .f64) ++ [floatOfInt .f64 x0] by rw [List.take_succ_eq_append_getElem hlt, List.map_append, (List.getElem?_eq_some_iff.1 hx).2]; rfl)
      clear hown hB hcx hx e1 e1b
      go_wp2_with (at_builtin; refine wpList_append_own _ rfl _ _ 25 rfl W7.heap.size 26 i0 (.float .f64 0) 1 8 Tryd.underlying25 hi hz0 hz1 hz3 rfl (by decide) _ _ _ rfl (HO.out.alloc _) ⟨wr.heap.size, 0, none⟩ 1 1 [.float .f64 (floatOfInt .f64 x0)] rfl rfl ?c1 ?c2 ?c3 ?c4 ?c5 ?_)
      case c1 =>
        intro j u hj
        match j, hj with
        | 0, hj => simp at hj; subst hj; simp [Addr.add]
      case c2 => intro u hu; simp at hu; subst hu; rfl
      case c3 => unfold maxLen; omega
      case c4 => omega
      case c5 => simp; omega
      intro v' w3 hown' hgrow _
      have HO3 := Lib.hid hown'
      have HB3 := Lib.hid (grown_below (HBr.out.alloc hsz _) (HO.out.alloc _) (Nat.le_refl _) (by simp; omega) hgrow)
      clear hown' hgrow
      go_wp2
      go_roundw
      case rel =>
        refine ⟨k + 1, by omega, by go_num, ?_, HB3.out⟩
        have := HO3.out
        rw [HTK.out]
        simpa [f64s] using this
      case measure => simp [intOf]; omega
    · have hkl : k = l.length := by omega
      have HXS := Lib.hid (show Slc wr (fun q => W7.heap.size ≤ q) u11 l.length (f64s (l.map (floatOfInt .f64))) by have := Slc.owned hown; rwa [hkl, List.take_length] at this)
      replace HS1 := Lib.hid (HS1.out.below hB)
      replace HS2 := Lib.hid (HS2.out.below hB)
      replace HT := Lib.hid (fun j hj => keep_below hB _ _ (HT.out j hj))
      replace HU := Lib.hid (HU.out.grow hB)
      replace HAU := Lib.hid (HAU.out.below hB)
      replace HX := Lib.hid (HX.out.grow hB)
      replace HAX := Lib.hid (HAX.out.below hB)
      replace HB := Lib.hid (HB.out.trans (hB.mono HB.out.size))
      clear hown hB hkl hst hcv
      have cHAU := HAU.out.2.1
      have cHAX := HAX.out.2.1
      go_wp2_with fail
      refine (shows_whole u _ (.ints l) _ HU.out HOK1.out HT.out (show Slc _ _ _ (VV.ints l).nums.length _ by simp only [VV.nums, List.length_map]; exact HXS.out) (by intro y hy; simp only [VV.nums, List.mem_map] at hy; obtain ⟨c, hc, rfl⟩ := hy; exact num_ofInt c (List.all_eq_true.1 HSM.out c hc)) (by simp [VV.nums, VV.len]) rfl rfl rfl rfl rfl).mono ?_
      clear cHAU cHAX
      rintro e W8 ⟨rfl, hB⟩
      replace HS1 := Lib.hid (HS1.out.below hB)
      replace HS2 := Lib.hid (HS2.out.below hB)
      replace HT := Lib.hid (fun j hj => keep_below hB _ _ (HT.out j hj))
      replace HU := Lib.hid (HU.out.grow hB)
      replace HAU := Lib.hid (HAU.out.below hB)
      replace HX := Lib.hid (HX.out.grow hB)
      replace HAX := Lib.hid (HAX.out.below hB)
      replace HXS := Lib.hid (HXS.out.below hB)
      replace HB := Lib.hid (HB.out.trans (hB.mono HB.out.size))
      clear hB
      have cHAU := HAU.out.2.1
      have cHAX := HAX.out.2.1
      go_wp2_with fail
      refine (awake4_calls _).mono ?_
      clear cHAU cHAX
      rintro e W9 ⟨rfl, hB⟩
      replace HS1 := Lib.hid (HS1.out.below hB)
      replace HS2 := Lib.hid (HS2.out.below hB)
      replace HT := Lib.hid (fun j hj => keep_below hB _ _ (HT.out j hj))
      replace HU := Lib.hid (HU.out.grow hB)
      replace HAU := Lib.hid (HAU.out.below hB)
      replace HX := Lib.hid (HX.out.grow hB)
      replace HAX := Lib.hid (HAX.out.below hB)
      replace HXS := Lib.hid (HXS.out.below hB)
      replace HB := Lib.hid (HB.out.trans (hB.mono HB.out.size))
      clear hB
      have cHAU := HAU.out.2.1
      have cHAX := HAX.out.2.1
      go_wp2
      go_ret
      exact ⟨rfl, HB.out⟩

set_option maxHeartbeats 8000000 in
theorem vecNumbers_ny (w : World) (v1 : Value) (l : List Int) (HS1 : Hid (Slc w (fun _ => True) v1 l.length (ints l))) (v2 : Value) (m : List Nat) (HS2 : Hid (Slc w (fun _ => True) v2 m.length (f64s m))) (HT : Hid (TabAt w)) (hl1 : l.length ≤ 500) (hl2 : m.length ≤ 500) (hsm : l.all sm = false) (HF : Hid (∀ x ∈ m, Fnt x)) :
    Calls Tryd.prog 4 #[v1, v2] w fun e w' => e = .returned (.bool true) ∧ Below w.heap.size w w' := by
  obtain ⟨i0, hi, hz0, hz1, hz3⟩ := info_parts info_f64
  have HSM := Lib.hid hsm
  have HL1 := Lib.hid (show l.length ≤ 2000000 by omega)
  have HL2 := Lib.hid (show m.length ≤ 2000000 by omega)
  have HOK1 : Hid ((VV.ints l).ok) := Lib.hid (show l.length ≤ 1048576 by omega)
  have HOK2 : Hid ((VV.floats (m.map ze)).ok) := Lib.hid (show (m.map ze).length ≤ 1048576 by rw [List.length_map]; omega)
  obtain ⟨ao1, cap1, rfl, _⟩ := HS1.out.opened
  obtain ⟨ao2, cap2, rfl, _⟩ := HS2.out.opened
  have hcv : ∀ n w, (convert 2 26 (.int .i64 n)).run Tryd.prog w = .ok (.float .f64 (floatOfInt .f64 n)) w := fun n w => run_convert_int_float w 2 26 .i64 .f64 n (by kernel_rfl) (by kernel_rfl)
  have hst := run_store_float
  clear hsm
  have HB := Lib.hid (Below.refl w.heap.size w)
  go_enter Tryd.func4, Tryd.ntmps4
  go_wp2_with fail
  refine (vints_no _ l _ HS1.out HL1.out HSM.out).mono ?_
  rintro e W1 ⟨u, rfl, hu, hB⟩
  replace HS1 := Lib.hid (HS1.out.below hB)
  replace HS2 := Lib.hid (HS2.out.below hB)
  replace HT := Lib.hid (fun j hj => keep_below hB _ _ (HT.out j hj))
  replace HB := Lib.hid (HB.out.trans (hB.mono HB.out.size))
  have hstu := hu.store
  have HU := Lib.hid hu.any
  clear hu
  clear hB
  obtain ⟨W2, hWn⟩ : ∃ W2, (W1.alloc (.cells #[u] 29)) = W2 := ⟨_, rfl⟩
  have hB : Below W1.heap.size W1 W2 := by rw [← hWn]; exact (below_new _ _)
  replace HS1 := Lib.hid (HS1.out.below hB)
  replace HS2 := Lib.hid (HS2.out.below hB)
  replace HT := Lib.hid (fun j hj => keep_below hB _ _ (HT.out j hj))
  replace HU := Lib.hid (HU.out.grow hB)
  replace HB := Lib.hid (HB.out.trans (hB.mono HB.out.size))
  have HAU := Lib.hid (show At1 W2 W1.heap.size (u) by rw [← hWn]; exact At1.new W1 (u) 29)
  clear hB
  have cHAU := HAU.out.2.1
  go_wp2_with fail
  clear hWn
  refine (vfloats_yes _ m _ HS2.out HL2.out HF.out).mono ?_
  clear cHAU
  rintro e W3 ⟨x, rfl, hu, hB⟩
  replace HS1 := Lib.hid (HS1.out.below hB)
  replace HS2 := Lib.hid (HS2.out.below hB)
  replace HT := Lib.hid (fun j hj => keep_below hB _ _ (HT.out j hj))
  replace HU := Lib.hid (HU.out.grow hB)
  replace HAU := Lib.hid (HAU.out.below hB)
  replace HB := Lib.hid (HB.out.trans (hB.mono HB.out.size))
  have hstx := hu.store
  have HX := Lib.hid hu.any
  clear hu
  clear hB
  have cHAU := HAU.out.2.1
  obtain ⟨W4, hWn⟩ : ∃ W4, (W3.alloc (.cells #[x] 29)) = W4 := ⟨_, rfl⟩
  have hB : Below W3.heap.size W3 W4 := by rw [← hWn]; exact (below_new _ _)
  clear cHAU
  replace HS1 := Lib.hid (HS1.out.below hB)
  replace HS2 := Lib.hid (HS2.out.below hB)
  replace HT := Lib.hid (fun j hj => keep_below hB _ _ (HT.out j hj))
  replace HU := Lib.hid (HU.out.grow hB)
  replace HAU := Lib.hid (HAU.out.below hB)
  replace HX := Lib.hid (HX.out.grow hB)
  replace HB := Lib.hid (HB.out.trans (hB.mono HB.out.size))
  have HAX := Lib.hid (show At1 W4 W3.heap.size (x) by rw [← hWn]; exact At1.new W3 (x) 29)
  clear hB
  have cHAU := HAU.out.2.1
  have cHAX := HAX.out.2.1
  go_wp2_with fail
  clear hWn
  refine (rtidys_yes _ m _ HS2.out HL2.out HF.out).mono ?_
  clear cHAU cHAX
  rintro e W5 ⟨vt, rfl, hs, hB⟩
  replace HS1 := Lib.hid (HS1.out.below hB)
  replace HS2 := Lib.hid (HS2.out.below hB)
  replace HT := Lib.hid (fun j hj => keep_below hB _ _ (HT.out j hj))
  replace HU := Lib.hid (HU.out.grow hB)
  replace HAU := Lib.hid (HAU.out.below hB)
  replace HX := Lib.hid (HX.out.grow hB)
  replace HAX := Lib.hid (HAX.out.below hB)
  replace HB := Lib.hid (HB.out.trans (hB.mono HB.out.size))
  have HTS := Lib.hid hs.any
  clear hs
  clear hB
  have cHAU := HAU.out.2.1
  have cHAX := HAX.out.2.1
  go_wp2_with fail
  refine (Calls.grow_same (rsmalls_calls _ l _ HS1.out (by have := HL1.out; omega))).mono ?_
  clear cHAU cHAX
  rintro e W6 ⟨rfl, hB⟩
  replace HS1 := Lib.hid (HS1.out.below hB)
  replace HS2 := Lib.hid (HS2.out.below hB)
  replace HT := Lib.hid (fun j hj => keep_below hB _ _ (HT.out j hj))
  replace HU := Lib.hid (HU.out.grow hB)
  replace HAU := Lib.hid (HAU.out.below hB)
  replace HX := Lib.hid (HX.out.grow hB)
  replace HAX := Lib.hid (HAX.out.below hB)
  replace HTS := Lib.hid (HTS.out.below hB)
  replace HB := Lib.hid (HB.out.trans (hB.mono HB.out.size))
  rw [HSM.out]
  clear hB
  have cHAU := HAU.out.2.1
  have cHAX := HAX.out.2.1
  go_wp2_with fail
  refine (kind_calls _ _ _ HU.out).mono ?_
  clear cHAU cHAX
  rintro e W7 ⟨rfl, hB⟩
  replace HS1 := Lib.hid (HS1.out.below hB)
  replace HS2 := Lib.hid (HS2.out.below hB)
  replace HT := Lib.hid (fun j hj => keep_below hB _ _ (HT.out j hj))
  replace HU := Lib.hid (HU.out.grow hB)
  replace HAU := Lib.hid (HAU.out.below hB)
  replace HX := Lib.hid (HX.out.grow hB)
  replace HAX := Lib.hid (HAX.out.below hB)
  replace HTS := Lib.hid (HTS.out.below hB)
  replace HB := Lib.hid (HB.out.trans (hB.mono HB.out.size))
  simp only [VV.kind]
  clear hB
  have cHAU := HAU.out.2.1
  have cHAX := HAX.out.2.1
  go_wp2
  go_loopw [11, 12] (fun v i wr => ∃ k : Nat, k ≤ l.length ∧ i = .int .i64 k ∧ wr.ownsRow W7.heap.size 26 1 v k (f64s ((l.take k).map (floatOfInt .f64))) ∧ Below W7.heap.size W7 wr) (fun _ i _ => l.length - (intOf i).toNat)
  case atStart => exact ⟨0, by omega, rfl, World.ownsRow_nil _ _ _ _, Below.refl _ _⟩
  case round =>
    obtain ⟨k, hk, rfl, hown, hB⟩ := hrel
    have HO := Lib.hid hown
    have HBr := Lib.hid hB
    have hsz := hB.size
    by_cases hlt : k < l.length
    · obtain ⟨bb, off, cap', x0, e1, hx, hcx⟩ := Slc.at_map (Value.int .i64) HS1.out k hlt
      obtain ⟨e1a, e1b⟩ : ao1 = some ⟨bb, off, none⟩ ∧ cap1 = cap' := by cases e1; exact ⟨rfl, rfl⟩
      subst e1a
      have hcl := keep_below hB _ _ hcx
      have HTK := Lib.hid (show (l.take (k + 1)).map (floatOfInt .f64) = (l.take k).map (floatOfInt .f64) ++ [floatOfInt .f64 x0] by rw [List.take_succ_eq_append_getElem hlt, List.map_append, (List.getElem?_eq_some_iff.1 hx).2]; rfl)
      clear hown hB hcx hx e1 e1b
      go_wp2_with (at_builtin; refine wpList_append_own _ rfl _ _ 25 rfl W7.heap.size 26 i0 (.float .f64 0) 1 8 Tryd.underlying25 hi hz0 hz1 hz3 rfl (by decide) _ _ _ rfl (HO.out.alloc _) ⟨wr.heap.size, 0, none⟩ 1 1 [.float .f64 (floatOfInt .f64 x0)] rfl rfl ?c1 ?c2 ?c3 ?c4 ?c5 ?_)
      case c1 =>
        intro j u hj
        match j, hj with
        | 0, hj => simp at hj; subst hj; simp [Addr.add]
      case c2 => intro u hu; simp at hu; subst hu; rfl
      case c3 => unfold maxLen; omega
      case c4 => omega
      case c5 => simp; omega
      intro v' w3 hown' hgrow _
      have HO3 := Lib.hid hown'
      have HB3 := Lib.hid (grown_below (HBr.out.alloc hsz _) (HO.out.alloc _) (Nat.le_refl _) (by simp; omega) hgrow)
      clear hown' hgrow
      go_wp2
      go_roundw
      case rel =>
        refine ⟨k + 1, by omega, by go_num, ?_, HB3.out⟩
        have := HO3.out
        rw [HTK.out]
        simpa [f64s] using this
      case measure => simp [intOf]; omega
    · have hkl : k = l.length := by omega
      have HXS := Lib.hid (show Slc wr (fun q => W7.heap.size ≤ q) u11 l.length (f64s (l.map (floatOfInt .f64))) by have := Slc.owned hown; rwa [hkl, List.take_length] at this)
      replace HS1 := Lib.hid (HS1.out.below hB)
      replace HS2 := Lib.hid (HS2.out.below hB)
      replace HT := Lib.hid (fun j hj => keep_below hB _ _ (HT.out j hj))
      replace HU := Lib.hid (HU.out.grow hB)
      replace HAU := Lib.hid (HAU.out.below hB)
      replace HX := Lib.hid (HX.out.grow hB)
      replace HAX := Lib.hid (HAX.out.below hB)
      replace HTS := Lib.hid (HTS.out.below hB)
      replace HB := Lib.hid (HB.out.trans (hB.mono HB.out.size))
      clear hown hB hkl hst hcv
      have cHAU := HAU.out.2.1
      have cHAX := HAX.out.2.1
      go_wp2_with fail
      refine (shows_other x _ (.floats (m.map ze)) _ HX.out HOK2.out HT.out (show Slc _ _ _ (VV.floats (m.map ze)).nums.length _ by simp only [VV.nums, List.length_map]; exact HTS.out) (by intro y hy; simp only [VV.nums, List.mem_map] at hy; obtain ⟨c, hc, rfl⟩ := hy; exact ze_num (HF.out c hc)) rfl rfl rfl rfl rfl rfl).mono ?_
      clear cHAU cHAX
      rintro e W8 ⟨rfl, hB⟩
      replace HS1 := Lib.hid (HS1.out.below hB)
      replace HS2 := Lib.hid (HS2.out.below hB)
      replace HT := Lib.hid (fun j hj => keep_below hB _ _ (HT.out j hj))
      replace HU := Lib.hid (HU.out.grow hB)
      replace HAU := Lib.hid (HAU.out.below hB)
      replace HX := Lib.hid (HX.out.grow hB)
      replace HAX := Lib.hid (HAX.out.below hB)
      replace HTS := Lib.hid (HTS.out.below hB)
      replace HXS := Lib.hid (HXS.out.below hB)
      replace HB := Lib.hid (HB.out.trans (hB.mono HB.out.size))
      clear hB
      have cHAU := HAU.out.2.1
      have cHAX := HAX.out.2.1
      go_wp2_with fail
      refine (awake4_calls _).mono ?_
      clear cHAU cHAX
      rintro e W9 ⟨rfl, hB⟩
      replace HS1 := Lib.hid (HS1.out.below hB)
      replace HS2 := Lib.hid (HS2.out.below hB)
      replace HT := Lib.hid (fun j hj => keep_below hB _ _ (HT.out j hj))
      replace HU := Lib.hid (HU.out.grow hB)
      replace HAU := Lib.hid (HAU.out.below hB)
      replace HX := Lib.hid (HX.out.grow hB)
      replace HAX := Lib.hid (HAX.out.below hB)
      replace HTS := Lib.hid (HTS.out.below hB)
      replace HXS := Lib.hid (HXS.out.below hB)
      replace HB := Lib.hid (HB.out.trans (hB.mono HB.out.size))
      clear hB
      have cHAU := HAU.out.2.1
      have cHAX := HAX.out.2.1
      go_wp2
      go_ret
      exact ⟨rfl, HB.out⟩

set_option maxHeartbeats 8000000 in
theorem vecNumbers_nn (w : World) (v1 : Value) (l : List Int) (HS1 : Hid (Slc w (fun _ => True) v1 l.length (ints l))) (v2 : Value) (m : List Nat) (HS2 : Hid (Slc w (fun _ => True) v2 m.length (f64s m))) (HT : Hid (TabAt w)) (hl1 : l.length ≤ 500) (hl2 : m.length ≤ 500) (hsm : l.all sm = false) (HWF : Hid (∀ x ∈ m, x < 18446744073709551616)) (HF : Hid (∃ x ∈ m, ¬ Fnt x)) :
    Calls Tryd.prog 4 #[v1, v2] w fun e w' => e = .returned (.bool true) ∧ Below w.heap.size w w' := by
  obtain ⟨i0, hi, hz0, hz1, hz3⟩ := info_parts info_f64
  have HSM := Lib.hid hsm
  have HL1 := Lib.hid (show l.length ≤ 2000000 by omega)
  have HL2 := Lib.hid (show m.length ≤ 2000000 by omega)
  have HOK1 : Hid ((VV.ints l).ok) := Lib.hid (show l.length ≤ 1048576 by omega)
  have HOK2 : Hid ((VV.floats (m.map ze)).ok) := Lib.hid (show (m.map ze).length ≤ 1048576 by rw [List.length_map]; omega)
  obtain ⟨ao1, cap1, rfl, _⟩ := HS1.out.opened
  obtain ⟨ao2, cap2, rfl, _⟩ := HS2.out.opened
  have hcv : ∀ n w, (convert 2 26 (.int .i64 n)).run Tryd.prog w = .ok (.float .f64 (floatOfInt .f64 n)) w := fun n w => run_convert_int_float w 2 26 .i64 .f64 n (by kernel_rfl) (by kernel_rfl)
  have hst := run_store_float
  clear hsm
  have HB := Lib.hid (Below.refl w.heap.size w)
  go_enter Tryd.func4, Tryd.ntmps4
  go_wp2_with fail
  refine (vints_no _ l _ HS1.out HL1.out HSM.out).mono ?_
  rintro e W1 ⟨u, rfl, hu, hB⟩
  replace HS1 := Lib.hid (HS1.out.below hB)
  replace HS2 := Lib.hid (HS2.out.below hB)
  replace HT := Lib.hid (fun j hj => keep_below hB _ _ (HT.out j hj))
  replace HB := Lib.hid (HB.out.trans (hB.mono HB.out.size))
  have hstu := hu.store
  have HU := Lib.hid hu.any
  clear hu
  clear hB
  obtain ⟨W2, hWn⟩ : ∃ W2, (W1.alloc (.cells #[u] 29)) = W2 := ⟨_, rfl⟩
  have hB : Below W1.heap.size W1 W2 := by rw [← hWn]; exact (below_new _ _)
  replace HS1 := Lib.hid (HS1.out.below hB)
  replace HS2 := Lib.hid (HS2.out.below hB)
  replace HT := Lib.hid (fun j hj => keep_below hB _ _ (HT.out j hj))
  replace HU := Lib.hid (HU.out.grow hB)
  replace HB := Lib.hid (HB.out.trans (hB.mono HB.out.size))
  have HAU := Lib.hid (show At1 W2 W1.heap.size (u) by rw [← hWn]; exact At1.new W1 (u) 29)
  clear hB
  have cHAU := HAU.out.2.1
  go_wp2_with fail
  clear hWn
  refine (vfloats_no _ m _ HS2.out HL2.out HWF.out HF.out).mono ?_
  clear cHAU
  rintro e W3 ⟨x, rfl, hu, hB⟩
  replace HS1 := Lib.hid (HS1.out.below hB)
  replace HS2 := Lib.hid (HS2.out.below hB)
  replace HT := Lib.hid (fun j hj => keep_below hB _ _ (HT.out j hj))
  replace HU := Lib.hid (HU.out.grow hB)
  replace HAU := Lib.hid (HAU.out.below hB)
  replace HB := Lib.hid (HB.out.trans (hB.mono HB.out.size))
  have hstx := hu.store
  have HX := Lib.hid hu.any
  clear hu
  clear hB
  have cHAU := HAU.out.2.1
  obtain ⟨W4, hWn⟩ : ∃ W4, (W3.alloc (.cells #[x] 29)) = W4 := ⟨_, rfl⟩
  have hB : Below W3.heap.size W3 W4 := by rw [← hWn]; exact (below_new _ _)
  clear cHAU
  replace HS1 := Lib.hid (HS1.out.below hB)
  replace HS2 := Lib.hid (HS2.out.below hB)
  replace HT := Lib.hid (fun j hj => keep_below hB _ _ (HT.out j hj))
  replace HU := Lib.hid (HU.out.grow hB)
  replace HAU := Lib.hid (HAU.out.below hB)
  replace HX := Lib.hid (HX.out.grow hB)
  replace HB := Lib.hid (HB.out.trans (hB.mono HB.out.size))
  have HAX := Lib.hid (show At1 W4 W3.heap.size (x) by rw [← hWn]; exact At1.new W3 (x) 29)
  clear hB
  have cHAU := HAU.out.2.1
  have cHAX := HAX.out.2.1
  go_wp2_with fail
  clear hWn
  refine (rtidys_no _ m _ HS2.out HL2.out HWF.out HF.out).mono ?_
  clear cHAU cHAX
  rintro e W5 ⟨rfl, hB⟩
  replace HS1 := Lib.hid (HS1.out.below hB)
  replace HS2 := Lib.hid (HS2.out.below hB)
  replace HT := Lib.hid (fun j hj => keep_below hB _ _ (HT.out j hj))
  replace HU := Lib.hid (HU.out.grow hB)
  replace HAU := Lib.hid (HAU.out.below hB)
  replace HX := Lib.hid (HX.out.grow hB)
  replace HAX := Lib.hid (HAX.out.below hB)
  replace HB := Lib.hid (HB.out.trans (hB.mono HB.out.size))
  clear hB
  have cHAU := HAU.out.2.1
  have cHAX := HAX.out.2.1
  go_wp2_with fail
  refine (Calls.grow_same (rsmalls_calls _ l _ HS1.out (by have := HL1.out; omega))).mono ?_
  clear cHAU cHAX
  rintro e W6 ⟨rfl, hB⟩
  replace HS1 := Lib.hid (HS1.out.below hB)
  replace HS2 := Lib.hid (HS2.out.below hB)
  replace HT := Lib.hid (fun j hj => keep_below hB _ _ (HT.out j hj))
  replace HU := Lib.hid (HU.out.grow hB)
  replace HAU := Lib.hid (HAU.out.below hB)
  replace HX := Lib.hid (HX.out.grow hB)
  replace HAX := Lib.hid (HAX.out.below hB)
  replace HB := Lib.hid (HB.out.trans (hB.mono HB.out.size))
  rw [HSM.out]
  clear hB
  have cHAU := HAU.out.2.1
  have cHAX := HAX.out.2.1
  go_wp2_with fail
  refine (kind_calls _ _ _ HU.out).mono ?_
  clear cHAU cHAX
  rintro e W7 ⟨rfl, hB⟩
  replace HS1 := Lib.hid (HS1.out.below hB)
  replace HS2 := Lib.hid (HS2.out.below hB)
  replace HT := Lib.hid (fun j hj => keep_below hB _ _ (HT.out j hj))
  replace HU := Lib.hid (HU.out.grow hB)
  replace HAU := Lib.hid (HAU.out.below hB)
  replace HX := Lib.hid (HX.out.grow hB)
  replace HAX := Lib.hid (HAX.out.below hB)
  replace HB := Lib.hid (HB.out.trans (hB.mono HB.out.size))
  simp only [VV.kind]
  clear hB
  have cHAU := HAU.out.2.1
  have cHAX := HAX.out.2.1
  go_wp2_with fail
  refine (kind_calls _ _ _ HX.out).mono ?_
  clear cHAU cHAX
  rintro e W8 ⟨rfl, hB⟩
  replace HS1 := Lib.hid (HS1.out.below hB)
  replace HS2 := Lib.hid (HS2.out.below hB)
  replace HT := Lib.hid (fun j hj => keep_below hB _ _ (HT.out j hj))
  replace HU := Lib.hid (HU.out.grow hB)
  replace HAU := Lib.hid (HAU.out.below hB)
  replace HX := Lib.hid (HX.out.grow hB)
  replace HAX := Lib.hid (HAX.out.below hB)
  replace HB := Lib.hid (HB.out.trans (hB.mono HB.out.size))
  simp only [VV.kind]
  clear hB
  have cHAU := HAU.out.2.1
  have cHAX := HAX.out.2.1
  go_wp2
  go_loopw [11, 12] (fun v i wr => ∃ k : Nat, k ≤ l.length ∧ i = .int .i64 k ∧ wr.ownsRow W8.heap.size 26 1 v k (f64s ((l.take k).map (floatOfInt .f64))) ∧ Below W8.heap.size W8 wr) (fun _ i _ => l.length - (intOf i).toNat)
  case atStart => exact ⟨0, by omega, rfl, World.ownsRow_nil _ _ _ _, Below.refl _ _⟩
  case round =>
    obtain ⟨k, hk, rfl, hown, hB⟩ := hrel
    have HO := Lib.hid hown
    have HBr := Lib.hid hB
    have hsz := hB.size
    by_cases hlt : k < l.length
    · obtain ⟨bb, off, cap', x0, e1, hx, hcx⟩ := Slc.at_map (Value.int .i64) HS1.out k hlt
      obtain ⟨e1a, e1b⟩ : ao1 = some ⟨bb, off, none⟩ ∧ cap1 = cap' := by cases e1; exact ⟨rfl, rfl⟩
      subst e1a
      have hcl := keep_below hB _ _ hcx
      have HTK := Lib.hid (show (l.take (k + 1)).map (floatOfInt .f64) = (l.take k).map (floatOfInt .f64) ++ [floatOfInt .f64 x0] by rw [List.take_succ_eq_append_getElem hlt, List.map_append, (List.getElem?_eq_some_iff.1 hx).2]; rfl)
      clear hown hB hcx hx e1 e1b
      go_wp2_with (at_builtin; refine wpList_append_own _ rfl _ _ 25 rfl W8.heap.size 26 i0 (.float .f64 0) 1 8 Tryd.underlying25 hi hz0 hz1 hz3 rfl (by decide) _ _ _ rfl (HO.out.alloc _) ⟨wr.heap.size, 0, none⟩ 1 1 [.float .f64 (floatOfInt .f64 x0)] rfl rfl ?c1 ?c2 ?c3 ?c4 ?c5 ?_)
      case c1 =>
        intro j u hj
        match j, hj with
        | 0, hj => simp at hj; subst hj; simp [Addr.add]
      case c2 => intro u hu; simp at hu; subst hu; rfl
      case c3 => unfold maxLen; omega
      case c4 => omega
      case c5 => simp; omega
      intro v' w3 hown' hgrow _
      have HO3 := Lib.hid hown'
      have HB3 := Lib.hid (grown_below (HBr.out.alloc hsz _) (HO.out.alloc _) (Nat.le_refl _) (by simp; omega) hgrow)
      clear hown' hgrow
      go_wp2
      go_roundw
      case rel =>
        refine ⟨k + 1, by omega, by go_num, ?_, HB3.out⟩
        have := HO3.out
        rw [HTK.out]
        simpa [f64s] using this
      case measure => simp [intOf]; omega
    · have hkl : k = l.length := by omega
      have HXS := Lib.hid (show Slc wr (fun q => W8.heap.size ≤ q) u11 l.length (f64s (l.map (floatOfInt .f64))) by have := Slc.owned hown; rwa [hkl, List.take_length] at this)
      replace HS1 := Lib.hid (HS1.out.below hB)
      replace HS2 := Lib.hid (HS2.out.below hB)
      replace HT := Lib.hid (fun j hj => keep_below hB _ _ (HT.out j hj))
      replace HU := Lib.hid (HU.out.grow hB)
      replace HAU := Lib.hid (HAU.out.below hB)
      replace HX := Lib.hid (HX.out.grow hB)
      replace HAX := Lib.hid (HAX.out.below hB)
      replace HB := Lib.hid (HB.out.trans (hB.mono HB.out.size))
      clear hown hB hkl hst hcv
      have cHAU := HAU.out.2.1
      have cHAX := HAX.out.2.1
      go_wp2_with fail
      refine (awake4_calls _).mono ?_
      clear cHAU cHAX
      rintro e W9 ⟨rfl, hB⟩
      replace HS1 := Lib.hid (HS1.out.below hB)
      replace HS2 := Lib.hid (HS2.out.below hB)
      replace HT := Lib.hid (fun j hj => keep_below hB _ _ (HT.out j hj))
      replace HU := Lib.hid (HU.out.grow hB)
      replace HAU := Lib.hid (HAU.out.below hB)
      replace HX := Lib.hid (HX.out.grow hB)
      replace HAX := Lib.hid (HAX.out.below hB)
      replace HXS := Lib.hid (HXS.out.below hB)
      replace HB := Lib.hid (HB.out.trans (hB.mono HB.out.size))
      clear hB
      have cHAU := HAU.out.2.1
      have cHAX := HAX.out.2.1
      go_wp2
      go_ret
      exact ⟨rfl, HB.out⟩

theorem vecNumbers_calls (w : World) (v1 : Value) (l : List Int) (hr1 : RowC w v1 (l.map (Value.int .i64))) (hz1 : ∀ z ∈ l, (Lit.int .i64 z).wf = true) (hl1 : l.length ≤ maxLen) (v2 : Value) (m : List Nat) (hr2 : RowC w v2 (m.map (Value.float .f64))) (hz2 : ∀ z ∈ m, (Lit.float .f64 z).wf = true) (hl2 : m.length ≤ maxLen) (hT : TabAt w) :
    Calls Tryd.prog 4 #[v1, v2] w fun e w' => e = .returned (.bool true) ∧ Below w.heap.size w w' := by
  have HT := Lib.hid hT
  have HS1 := Lib.hid (show Slc w (fun _ => True) v1 l.length (ints l) by have := hr1.slc; rw [List.length_map] at this; exact this)
  have HS2 := Lib.hid (show Slc w (fun _ => True) v2 m.length (f64s m) by have := hr2.slc; rw [List.length_map] at this; exact this)
  have HWF := Lib.hid (fun x (h : x ∈ m) => wf_f64 (hz2 x h))
  unfold maxLen at hl1 hl2
  clear hr1 hr2 hz1 hz2 hT
  by_cases hbig : 500 < l.length
  · obtain ⟨ao1, cap1, rfl, _⟩ := HS1.out.opened
    go_enter Tryd.func4, Tryd.ntmps4
    go_wp2_with fail
    refine (awake4_calls w).mono ?_
    rintro e w1 ⟨rfl, hB⟩
    have HB := Lib.hid hB
    clear hB
    go_wp2
    go_ret
    exact ⟨rfl, HB.out⟩
  by_cases hbig2 : 500 < m.length
  · obtain ⟨ao1, cap1, rfl, _⟩ := HS1.out.opened
    obtain ⟨ao2, cap2, rfl, _⟩ := HS2.out.opened
    go_enter Tryd.func4, Tryd.ntmps4
    go_wp2_with fail
    refine (awake4_calls w).mono ?_
    rintro e w1 ⟨rfl, hB⟩
    have HB := Lib.hid hB
    clear hB
    go_wp2
    go_ret
    exact ⟨rfl, HB.out⟩
  by_cases hF : ∀ x ∈ m, Fnt x
  · cases hs : l.all sm
    · exact vecNumbers_ny w v1 l HS1 v2 m HS2 HT (by omega) (by omega) hs (Lib.hid hF)
    · exact vecNumbers_yy w v1 l HS1 v2 m HS2 HT (by omega) (by omega) hs (Lib.hid hF)
  · have hN : ∃ x ∈ m, ¬ Fnt x := by
      apply Classical.byContradiction
      intro hc
      exact hF fun x hx => Classical.byContradiction fun hn => hc ⟨x, hx, hn⟩
    cases hs : l.all sm
    · exact vecNumbers_nn w v1 l HS1 v2 m HS2 HT (by omega) (by omega) hs HWF (Lib.hid hN)
    · exact vecNumbers_yn w v1 l HS1 v2 m HS2 HT (by omega) (by omega) hs HWF (Lib.hid hN)
end Go.Proofs.YtlgaelndboeapaaDoor

/- VecBits, walked. -/
import Derived.Test.YtlgaelndboeapaaDoorVeQ
import Derived.Test.YtlgaelndboeapaaDoorBvD
import Derived.Test.YtlgaelndboeapaaDoorBvP
import Derived.Test.YtlgaelndboeapaaDoorBvK
namespace Go.Proofs.YtlgaelndboeapaaDoor
open Go.RowKit Fl
set_option linter.unusedVariables false
set_option maxRecDepth 8000

theorem num_zero : Num 0 := ⟨fin_zero, fun _ => rfl⟩
theorem num_one : Num 4607182418800017408 := ⟨one_fin, fun h => absurd h (by decide)⟩
theorem num_flag (b : Bool) : Num (flagW b) := by cases b; exact num_zero; exact num_one
theorem num_ofInt (n : Int) (h : sm n = true) : Num (floatOfInt .f64 n) := by
  obtain ⟨h1, h2⟩ := sm_of h
  refine ⟨ofInt_fin n (by omega), fun hz => ?_⟩
  have hv := ofInt_val n (by omega)
  rw [V_eq_zero.2 hz] at hv
  have hp := pw_pos 1074
  have hn : n = 0 := by
    rcases Int.mul_eq_zero.1 hv.symm with h | h
    · exact h
    · omega
  subst hn
  decide +kernel
theorem sm_i8 {z : Int} (h1 : -128 ≤ z) (h2 : z ≤ 127) : sm z = true := sm_yes (by omega) (by omega)
theorem flag_map (b : List Bool) : (VV.bits b).nums = (VV.bits b).whs.map (floatOfInt .f64) := by
  simp only [VV.nums, VV.whs, List.map_map]
  apply List.map_congr_left
  intro c _
  cases c <;> decide +kernel
theorem i8_range {z : Int} (h : (Lit.int .i8 z).wf = true) : -128 ≤ z ∧ z ≤ 127 := by
  have hm : IntKind.i8.min = -128 ∧ IntKind.i8.max = 127 := by decide
  simp only [Lit.wf, decide_eq_true_eq, Bool.and_eq_true] at h
  rw [hm.1, hm.2] at h; exact h

set_option maxHeartbeats 8000000 in
theorem vecBits_calls (w : World) (v1 : Value) (b : List Bool) (hr1 : RowC w v1 (b.map Value.bool)) (hl1 : b.length ≤ maxLen) (v2 : Value) (s : List Int) (hr2 : RowC w v2 (s.map (Value.int .i8))) (hz2 : ∀ z ∈ s, (Lit.int .i8 z).wf = true) (hl2 : s.length ≤ maxLen) (hT : TabAt w) :
    Calls Tryd.prog 3 #[v1, v2] w fun e w' => e = .returned (.bool true) ∧ Below w.heap.size w w' := by
  obtain ⟨i0, hi, hz0, hz1, hz3⟩ := info_parts info_f64
  have HT := Lib.hid hT
  have HS1 := Lib.hid (show Slc w (fun _ => True) v1 b.length (bools b) by have := hr1.slc; rw [List.length_map] at this; exact this)
  have HS2 := Lib.hid (show Slc w (fun _ => True) v2 s.length (i8s s) by have := hr2.slc; rw [List.length_map] at this; exact this)
  have HR := Lib.hid (fun z (h : z ∈ s) => i8_range (hz2 z h))
  obtain ⟨ao1, cap1, rfl, _⟩ := HS1.out.opened
  obtain ⟨ao2, cap2, rfl, _⟩ := HS2.out.opened
  unfold maxLen at hl1 hl2
  clear hr1 hr2 hz2 hT
  by_cases hbig : 500 < b.length
  · go_enter Tryd.func3, Tryd.ntmps3
    go_wp2_with fail
    refine (awake4_calls w).mono ?_
    rintro e w1 ⟨rfl, hB⟩
    have HB := Lib.hid hB
    clear hB
    go_wp2
    go_ret
    exact ⟨rfl, HB.out⟩
  by_cases hbig2 : 500 < s.length
  · go_enter Tryd.func3, Tryd.ntmps3
    go_wp2_with fail
    refine (awake4_calls w).mono ?_
    rintro e w1 ⟨rfl, hB⟩
    have HB := Lib.hid hB
    clear hB
    go_wp2
    go_ret
    exact ⟨rfl, HB.out⟩
  have hst := run_store_float
  have hcv : ∀ n w, (convert 27 26 (.int .i8 n)).run Tryd.prog w = .ok (.float .f64 (floatOfInt .f64 n)) w := fun n w => run_convert_int_float w 27 26 .i8 .f64 n (by kernel_rfl) (by kernel_rfl)
  go_enter Tryd.func3, Tryd.ntmps3
  go_wp2
  go_loopw [5, 7] (fun v i wr => ∃ k : Nat, k ≤ b.length ∧ i = .int .i64 k ∧ wr.ownsRow w.heap.size 26 1 v k (f64s ((b.take k).map flagW)) ∧ Below w.heap.size w wr) (fun _ i _ => b.length - (intOf i).toNat)
  case atStart => exact ⟨0, by omega, rfl, World.ownsRow_nil _ _ _ _, Below.refl _ _⟩
  case round =>
    obtain ⟨k, hk, rfl, hown, hB⟩ := hrel
    have HO := Lib.hid hown
    have HB := Lib.hid hB
    have hsz := hB.size
    by_cases hlt : k < b.length
    · obtain ⟨bb, off, cap', x, e1, hx, hcx⟩ := Slc.at_map Value.bool HS1.out k hlt
      obtain ⟨e1a, e1b⟩ : ao1 = some ⟨bb, off, none⟩ ∧ cap1 = cap' := by cases e1; exact ⟨rfl, rfl⟩
      subst e1a
      have hcl := keep_below hB _ _ hcx
      have HTK := Lib.hid (show (b.take (k + 1)).map flagW = (b.take k).map flagW ++ [flagW x] by rw [List.take_succ_eq_append_getElem hlt, List.map_append, (List.getElem?_eq_some_iff.1 hx).2]; rfl)
      clear hown hB hcx hx e1 e1b
      cases x
      · go_wp2_with (at_builtin; refine wpList_append_own _ rfl _ _ 25 rfl w.heap.size 26 i0 (.float .f64 0) 1 8 Tryd.underlying25 hi hz0 hz1 hz3 rfl (by decide) _ _ _ rfl (HO.out.alloc _) ⟨wr.heap.size, 0, none⟩ 1 1 [.float .f64 0] rfl rfl ?c1 ?c2 ?c3 ?c4 ?c5 ?_)
        case c1 =>
          intro j u hj
          match j, hj with
          | 0, hj => simp at hj; subst hj; simp [Addr.add]
        case c2 => intro u hu; simp at hu; subst hu; rfl
        case c3 => unfold maxLen; omega
        case c4 => omega
        case c5 => simp; omega
        intro v' w3 hown' hgrow _
        have HO3 := Lib.hid hown'
        have HB3 := Lib.hid (grown_below (HB.out.alloc hsz _) (HO.out.alloc _) (Nat.le_refl _) (by simp; omega) hgrow)
        clear hown' hgrow
        go_wp2
        go_roundw
        case rel =>
          refine ⟨k + 1, by omega, by go_num, ?_, HB3.out⟩
          have := HO3.out
          rw [HTK.out]
          simpa [f64s, flagW] using this
        case measure => simp [intOf]; omega
      · go_wp2_with (at_builtin; refine wpList_append_own _ rfl _ _ 25 rfl w.heap.size 26 i0 (.float .f64 0) 1 8 Tryd.underlying25 hi hz0 hz1 hz3 rfl (by decide) _ _ _ rfl (HO.out.alloc _) ⟨wr.heap.size, 0, none⟩ 1 1 [.float .f64 4607182418800017408] rfl rfl ?c1 ?c2 ?c3 ?c4 ?c5 ?_)
        case c1 =>
          intro j u hj
          match j, hj with
          | 0, hj => simp at hj; subst hj; simp [Addr.add]
        case c2 => intro u hu; simp at hu; subst hu; rfl
        case c3 => unfold maxLen; omega
        case c4 => omega
        case c5 => simp; omega
        intro v' w3 hown' hgrow _
        have HO3 := Lib.hid hown'
        have HB3 := Lib.hid (grown_below (HB.out.alloc hsz _) (HO.out.alloc _) (Nat.le_refl _) (by simp; omega) hgrow)
        clear hown' hgrow
        go_wp2
        go_roundw
        case rel =>
          refine ⟨k + 1, by omega, by go_num, ?_, HB3.out⟩
          have := HO3.out
          rw [HTK.out]
          simpa [f64s, flagW] using this
        case measure => simp [intOf]; omega
    · have hkl : k = b.length := by omega
      have HXS := Lib.hid (show Slc wr (fun q => w.heap.size ≤ q) u5 b.length (f64s (b.map flagW)) by have := Slc.owned hown; rwa [hkl, List.take_length] at this)
      have HBx := Lib.hid hB
      have hszx := hB.size
      clear hown hB hkl
      obtain ⟨wx, hwx⟩ : ∃ wx, wx = wr := ⟨_, rfl⟩
      subst hwx
      go_wp2
      go_loopw [6, 9] (fun v i wr => ∃ k : Nat, k ≤ s.length ∧ i = .int .i64 k ∧ wr.ownsRow wx.heap.size 26 1 v k (f64s ((s.take k).map (floatOfInt .f64))) ∧ Below wx.heap.size wx wr) (fun _ i _ => s.length - (intOf i).toNat)
      case atStart => exact ⟨0, by omega, rfl, World.ownsRow_nil _ _ _ _, Below.refl _ _⟩
      case round =>
        obtain ⟨k2, hk2, rfl, hown, hB⟩ := hrel
        have HO := Lib.hid hown
        have HB := Lib.hid hB
        have hsz := hB.size
        by_cases hlt : k2 < s.length
        · obtain ⟨bb, off, cap', x, e1, hx, hcx⟩ := Slc.at_map (Value.int .i8) HS2.out k2 hlt
          obtain ⟨e1a, e1b⟩ : ao2 = some ⟨bb, off, none⟩ ∧ cap2 = cap' := by cases e1; exact ⟨rfl, rfl⟩
          subst e1a
          have hcl := keep_below (HBx.out.trans (hB.mono HBx.out.size)) _ _ hcx
          have HTK := Lib.hid (show (s.take (k2 + 1)).map (floatOfInt .f64) = (s.take k2).map (floatOfInt .f64) ++ [floatOfInt .f64 x] by rw [List.take_succ_eq_append_getElem hlt, List.map_append, (List.getElem?_eq_some_iff.1 hx).2]; rfl)
          clear hown hB hcx hx e1 e1b
          go_wp2_with (at_builtin; refine wpList_append_own _ rfl _ _ 25 rfl wx.heap.size 26 i0 (.float .f64 0) 1 8 Tryd.underlying25 hi hz0 hz1 hz3 rfl (by decide) _ _ _ rfl (HO.out.alloc _) ⟨wr.heap.size, 0, none⟩ 1 1 [.float .f64 (floatOfInt .f64 x)] rfl rfl ?c1 ?c2 ?c3 ?c4 ?c5 ?_)
          case c1 =>
            intro j u hj
            match j, hj with
            | 0, hj => simp at hj; subst hj; simp [Addr.add]
          case c2 => intro u hu; simp at hu; subst hu; rfl
          case c3 => unfold maxLen; omega
          case c4 => omega
          case c5 => simp; omega
          intro v' w3 hown' hgrow _
          have HO3 := Lib.hid hown'
          have HB3 := Lib.hid (grown_below (HB.out.alloc hsz _) (HO.out.alloc _) (Nat.le_refl _) (by simp; omega) hgrow)
          clear hown' hgrow
          go_wp2
          go_roundw
          case rel =>
            refine ⟨k2 + 1, by omega, by go_num, ?_, HB3.out⟩
            have := HO3.out
            rw [HTK.out]
            simpa [f64s] using this
          case measure => simp [intOf]; omega
        · have hkl2 : k2 = s.length := by omega
          have HYS := Lib.hid (show Slc wr (fun q => wx.heap.size ≤ q) u6 s.length (f64s (s.map (floatOfInt .f64))) by have := Slc.owned hown; rwa [hkl2, List.take_length] at this)
          replace HB := Lib.hid (HBx.out.trans (hB.mono HBx.out.size))
          replace HS1 := Lib.hid (HS1.out.below HB.out)
          replace HS2 := Lib.hid (HS2.out.below HB.out)
          replace HXS := Lib.hid (HXS.out.below hB)
          replace HT := Lib.hid (show TabAt wr from fun j hj => keep_below HB.out _ _ (HT.out j hj))
          have HOK1 : Hid ((VV.bits b).ok) := Lib.hid (show b.length ≤ 1048576 by omega)
          have HOK2 : Hid ((VV.smalls s).ok) := Lib.hid (show s.length ≤ 1048576 ∧ _ from ⟨by omega, HR.out⟩)
          have HBL := Lib.hid (show b.length ≤ 1048576 by omega)
          have HSL := Lib.hid (show s.length ≤ 2000000 by omega)
          clear hown hB hkl2 hst hcv
          go_wp2_with fail
          refine (pack_calls _ b _ HS1.out.1.sl HBL.out).mono ?_
          rintro e W1 ⟨vp, rfl, hp, hB⟩
          replace HS1 := Lib.hid (HS1.out.below hB)
          replace HS2 := Lib.hid (HS2.out.below hB)
          replace HXS := Lib.hid (HXS.out.below hB)
          replace HYS := Lib.hid (HYS.out.below hB)
          replace HT := Lib.hid (fun j hj => keep_below hB _ _ (HT.out j hj))
          replace HB := Lib.hid (HB.out.trans (hB.mono HB.out.size))
          obtain ⟨aop, capp, rfl, _⟩ := hp.opened
          have HP := Lib.hid hp
          clear hp
          clear hB
          go_wp2_with fail
          refine (vbits_calls _ b _ HP.out HBL.out).mono ?_
          rintro e W2 ⟨u, rfl, hu, hB⟩
          replace HS1 := Lib.hid (HS1.out.below hB)
          replace HS2 := Lib.hid (HS2.out.below hB)
          replace HXS := Lib.hid (HXS.out.below hB)
          replace HYS := Lib.hid (HYS.out.below hB)
          replace HT := Lib.hid (fun j hj => keep_below hB _ _ (HT.out j hj))
          replace HP := Lib.hid (HP.out.keep (keep_below hB))
          replace HB := Lib.hid (HB.out.trans (hB.mono HB.out.size))
          have hstu := hu.store
          have HU := Lib.hid hu.any
          clear hu
          clear hB
          go_wp2_with fail
          refine (vsmalls_calls _ s _ HS2.out HSL.out).mono ?_
          rintro e W3 ⟨x, rfl, hu, hB⟩
          replace HS1 := Lib.hid (HS1.out.below hB)
          replace HS2 := Lib.hid (HS2.out.below hB)
          replace HXS := Lib.hid (HXS.out.below hB)
          replace HYS := Lib.hid (HYS.out.below hB)
          replace HT := Lib.hid (fun j hj => keep_below hB _ _ (HT.out j hj))
          replace HP := Lib.hid (HP.out.keep (keep_below hB))
          replace HU := Lib.hid (HU.out.grow hB)
          replace HB := Lib.hid (HB.out.trans (hB.mono HB.out.size))
          have hstx := hu.store
          have HX := Lib.hid hu.any
          clear hu
          clear hB
          obtain ⟨W4, hWn⟩ : ∃ W4, ((W3.alloc (.cells #[u] 29)).alloc (.cells #[x] 29)) = W4 := ⟨_, rfl⟩
          have hB : Below W3.heap.size W3 W4 := by rw [← hWn]; exact ((below_new _ _).alloc (by simp <;> omega) _)
          replace HS1 := Lib.hid (HS1.out.below hB)
          replace HS2 := Lib.hid (HS2.out.below hB)
          replace HXS := Lib.hid (HXS.out.below hB)
          replace HYS := Lib.hid (HYS.out.below hB)
          replace HT := Lib.hid (fun j hj => keep_below hB _ _ (HT.out j hj))
          replace HP := Lib.hid (HP.out.keep (keep_below hB))
          replace HU := Lib.hid (HU.out.grow hB)
          replace HX := Lib.hid (HX.out.grow hB)
          replace HB := Lib.hid (HB.out.trans (hB.mono HB.out.size))
          have HAU := Lib.hid (show At1 W4 W3.heap.size (u) by rw [← hWn]; exact (At1.new W3 (u) 29).below (below_new _ _))
          have HAX := Lib.hid (show At1 W4 (W3.heap.size + 1) (x) by rw [← hWn]; have := At1.new (W3.alloc (.cells #[u] 29)) (x) 29; simpa using this)
          clear hB
          have cHAU := HAU.out.2.1
          have cHAX := HAX.out.2.1
          go_wp2_with fail
          clear hWn
          refine (vpacked_calls _ _ _ HU.out).mono ?_
          clear cHAU cHAX
          rintro e W5 ⟨v1, rfl, hp, hB⟩
          replace HS1 := Lib.hid (HS1.out.below hB)
          replace HS2 := Lib.hid (HS2.out.below hB)
          replace HXS := Lib.hid (HXS.out.below hB)
          replace HYS := Lib.hid (HYS.out.below hB)
          replace HT := Lib.hid (fun j hj => keep_below hB _ _ (HT.out j hj))
          replace HP := Lib.hid (HP.out.keep (keep_below hB))
          replace HU := Lib.hid (HU.out.grow hB)
          replace HX := Lib.hid (HX.out.grow hB)
          replace HAU := Lib.hid (HAU.out.below hB)
          replace HAX := Lib.hid (HAX.out.below hB)
          replace HB := Lib.hid (HB.out.trans (hB.mono HB.out.size))
          obtain ⟨ao3, cap3, rfl, _⟩ := hp.opened
          have HP1 := Lib.hid (show IsBits _ _ b from hp)
          clear hp
          simp only [VV.packed, VV.isBit] at HP1 ⊢
          clear hB
          have cHAU := HAU.out.2.1
          have cHAX := HAX.out.2.1
          obtain ⟨W6, hWn⟩ : ∃ W6, (W5.alloc (.cells #[.int .i64 (b.length : Int), .slice ao3 ((b.length + 63) / 64) cap3] 33)) = W6 := ⟨_, rfl⟩
          have hB : Below W5.heap.size W5 W6 := by rw [← hWn]; exact (below_new _ _)
          clear cHAU cHAX
          replace HS1 := Lib.hid (HS1.out.below hB)
          replace HS2 := Lib.hid (HS2.out.below hB)
          replace HXS := Lib.hid (HXS.out.below hB)
          replace HYS := Lib.hid (HYS.out.below hB)
          replace HT := Lib.hid (fun j hj => keep_below hB _ _ (HT.out j hj))
          replace HP := Lib.hid (HP.out.keep (keep_below hB))
          replace HU := Lib.hid (HU.out.grow hB)
          replace HX := Lib.hid (HX.out.grow hB)
          replace HAU := Lib.hid (HAU.out.below hB)
          replace HAX := Lib.hid (HAX.out.below hB)
          replace HP1 := Lib.hid (HP1.out.keep (keep_below hB))
          replace HB := Lib.hid (HB.out.trans (hB.mono HB.out.size))
          have HA1 := Lib.hid (show At2 W6 W5.heap.size (.int .i64 (b.length : Int)) (.slice ao3 ((b.length + 63) / 64) cap3) by rw [← hWn]; exact At2.new W5 (.int .i64 (b.length : Int)) (.slice ao3 ((b.length + 63) / 64) cap3) 33)
          clear hB
          have cHAU := HAU.out.2.1
          have cHAX := HAX.out.2.1
          have cHA1 := HA1.out.2.1
          have dHA1 := HA1.out.2.2.1
          go_wp2_with fail
          clear hWn
          refine (vpacked_calls _ _ _ HX.out).mono ?_
          clear cHAU cHAX cHA1 dHA1
          rintro e W7 ⟨v2, rfl, hp, hB⟩
          replace HS1 := Lib.hid (HS1.out.below hB)
          replace HS2 := Lib.hid (HS2.out.below hB)
          replace HXS := Lib.hid (HXS.out.below hB)
          replace HYS := Lib.hid (HYS.out.below hB)
          replace HT := Lib.hid (fun j hj => keep_below hB _ _ (HT.out j hj))
          replace HP := Lib.hid (HP.out.keep (keep_below hB))
          replace HU := Lib.hid (HU.out.grow hB)
          replace HX := Lib.hid (HX.out.grow hB)
          replace HAU := Lib.hid (HAU.out.below hB)
          replace HAX := Lib.hid (HAX.out.below hB)
          replace HP1 := Lib.hid (HP1.out.keep (keep_below hB))
          replace HA1 := Lib.hid (HA1.out.below hB)
          replace HB := Lib.hid (HB.out.trans (hB.mono HB.out.size))
          obtain ⟨ao4, cap4, e4, _⟩ := hp.opened
          have HP2 := Lib.hid (show IsBits _ _ ([] : List Bool) from hp)
          replace e4 : v2 = .agg #[.int .i64 0, .slice ao4 0 cap4] := by rw [e4]; simp [VV.packed]
          subst e4
          clear hp
          simp only [VV.isBit]
          clear hB
          have cHAU := HAU.out.2.1
          have cHAX := HAX.out.2.1
          have cHA1 := HA1.out.2.1
          have dHA1 := HA1.out.2.2.1
          obtain ⟨W8, hWn⟩ : ∃ W8, (W7.alloc (.cells #[.int .i64 0, .slice ao4 0 cap4] 33)) = W8 := ⟨_, rfl⟩
          have hB : Below W7.heap.size W7 W8 := by rw [← hWn]; exact (below_new _ _)
          clear cHAU cHAX cHA1 dHA1
          replace HS1 := Lib.hid (HS1.out.below hB)
          replace HS2 := Lib.hid (HS2.out.below hB)
          replace HXS := Lib.hid (HXS.out.below hB)
          replace HYS := Lib.hid (HYS.out.below hB)
          replace HT := Lib.hid (fun j hj => keep_below hB _ _ (HT.out j hj))
          replace HP := Lib.hid (HP.out.keep (keep_below hB))
          replace HU := Lib.hid (HU.out.grow hB)
          replace HX := Lib.hid (HX.out.grow hB)
          replace HAU := Lib.hid (HAU.out.below hB)
          replace HAX := Lib.hid (HAX.out.below hB)
          replace HP1 := Lib.hid (HP1.out.keep (keep_below hB))
          replace HA1 := Lib.hid (HA1.out.below hB)
          replace HP2 := Lib.hid (HP2.out.keep (keep_below hB))
          replace HB := Lib.hid (HB.out.trans (hB.mono HB.out.size))
          have HA2 := Lib.hid (show At2 W8 W7.heap.size (.int .i64 0) (.slice ao4 0 cap4) by rw [← hWn]; exact At2.new W7 (.int .i64 0) (.slice ao4 0 cap4) 33)
          clear hB
          have cHAU := HAU.out.2.1
          have cHAX := HAX.out.2.1
          have cHA1 := HA1.out.2.1
          have dHA1 := HA1.out.2.2.1
          have cHA2 := HA2.out.2.1
          have dHA2 := HA2.out.2.2.1
          go_wp2_with fail
          clear hWn
          refine (shows_whole u _ (.bits b) _ HU.out HOK1.out HT.out (show Slc _ _ _ (VV.bits b).nums.length _ by simp only [VV.nums, List.length_map]; exact HXS.out) (by intro y hy; simp only [VV.nums, List.mem_map] at hy; obtain ⟨c, _, rfl⟩ := hy; exact num_flag c) (by simp [VV.nums, VV.len]) rfl rfl rfl rfl (flag_map b)).mono ?_
          clear cHAU cHAX cHA1 dHA1 cHA2 dHA2
          rintro e W9 ⟨rfl, hB⟩
          replace HS1 := Lib.hid (HS1.out.below hB)
          replace HS2 := Lib.hid (HS2.out.below hB)
          replace HXS := Lib.hid (HXS.out.below hB)
          replace HYS := Lib.hid (HYS.out.below hB)
          replace HT := Lib.hid (fun j hj => keep_below hB _ _ (HT.out j hj))
          replace HP := Lib.hid (HP.out.keep (keep_below hB))
          replace HU := Lib.hid (HU.out.grow hB)
          replace HX := Lib.hid (HX.out.grow hB)
          replace HAU := Lib.hid (HAU.out.below hB)
          replace HAX := Lib.hid (HAX.out.below hB)
          replace HP1 := Lib.hid (HP1.out.keep (keep_below hB))
          replace HA1 := Lib.hid (HA1.out.below hB)
          replace HP2 := Lib.hid (HP2.out.keep (keep_below hB))
          replace HA2 := Lib.hid (HA2.out.below hB)
          replace HB := Lib.hid (HB.out.trans (hB.mono HB.out.size))
          clear hB
          have cHAU := HAU.out.2.1
          have cHAX := HAX.out.2.1
          have cHA1 := HA1.out.2.1
          have dHA1 := HA1.out.2.2.1
          have cHA2 := HA2.out.2.1
          have dHA2 := HA2.out.2.2.1
          go_wp2_with fail
          refine (shows_whole x _ (.smalls s) _ HX.out HOK2.out HT.out (show Slc _ _ _ (VV.smalls s).nums.length _ by simp only [VV.nums, List.length_map]; exact HYS.out) (by intro y hy; simp only [VV.nums, List.mem_map] at hy; obtain ⟨c, hc, rfl⟩ := hy; exact num_ofInt c (sm_i8 (HR.out c hc).1 (HR.out c hc).2)) (by simp [VV.nums, VV.len]) rfl rfl rfl rfl rfl).mono ?_
          clear cHAU cHAX cHA1 dHA1 cHA2 dHA2
          rintro e W10 ⟨rfl, hB⟩
          replace HS1 := Lib.hid (HS1.out.below hB)
          replace HS2 := Lib.hid (HS2.out.below hB)
          replace HXS := Lib.hid (HXS.out.below hB)
          replace HYS := Lib.hid (HYS.out.below hB)
          replace HT := Lib.hid (fun j hj => keep_below hB _ _ (HT.out j hj))
          replace HP := Lib.hid (HP.out.keep (keep_below hB))
          replace HU := Lib.hid (HU.out.grow hB)
          replace HX := Lib.hid (HX.out.grow hB)
          replace HAU := Lib.hid (HAU.out.below hB)
          replace HAX := Lib.hid (HAX.out.below hB)
          replace HP1 := Lib.hid (HP1.out.keep (keep_below hB))
          replace HA1 := Lib.hid (HA1.out.below hB)
          replace HP2 := Lib.hid (HP2.out.keep (keep_below hB))
          replace HA2 := Lib.hid (HA2.out.below hB)
          replace HB := Lib.hid (HB.out.trans (hB.mono HB.out.size))
          clear hB
          have cHAU := HAU.out.2.1
          have cHAX := HAX.out.2.1
          have cHA1 := HA1.out.2.1
          have dHA1 := HA1.out.2.2.1
          have cHA2 := HA2.out.2.1
          have dHA2 := HA2.out.2.2.1
          go_wp2_with fail
          refine (unpack_calls _ b _ HP1.out HBL.out).mono ?_
          clear cHAU cHAX cHA1 dHA1 cHA2 dHA2
          rintro e W11 ⟨v3, rfl, hs, hB⟩
          replace HS1 := Lib.hid (HS1.out.below hB)
          replace HS2 := Lib.hid (HS2.out.below hB)
          replace HXS := Lib.hid (HXS.out.below hB)
          replace HYS := Lib.hid (HYS.out.below hB)
          replace HT := Lib.hid (fun j hj => keep_below hB _ _ (HT.out j hj))
          replace HP := Lib.hid (HP.out.keep (keep_below hB))
          replace HU := Lib.hid (HU.out.grow hB)
          replace HX := Lib.hid (HX.out.grow hB)
          replace HAU := Lib.hid (HAU.out.below hB)
          replace HAX := Lib.hid (HAX.out.below hB)
          replace HP1 := Lib.hid (HP1.out.keep (keep_below hB))
          replace HA1 := Lib.hid (HA1.out.below hB)
          replace HP2 := Lib.hid (HP2.out.keep (keep_below hB))
          replace HA2 := Lib.hid (HA2.out.below hB)
          replace HB := Lib.hid (HB.out.trans (hB.mono HB.out.size))
          have HUB := Lib.hid hs
          clear hs
          clear hB
          have cHAU := HAU.out.2.1
          have cHAX := HAX.out.2.1
          have cHA1 := HA1.out.2.1
          have dHA1 := HA1.out.2.2.1
          have cHA2 := HA2.out.2.1
          have dHA2 := HA2.out.2.2.1
          go_wp2_with fail
          refine (bools_calls _ _ b b _ HUB.out HS1.out.1.sl (by unfold maxLen; have := HBL.out; omega)).mono ?_
          clear cHAU cHAX cHA1 dHA1 cHA2 dHA2
          rintro e W12 ⟨rfl, hB⟩
          replace HS1 := Lib.hid (HS1.out.below hB)
          replace HS2 := Lib.hid (HS2.out.below hB)
          replace HXS := Lib.hid (HXS.out.below hB)
          replace HYS := Lib.hid (HYS.out.below hB)
          replace HT := Lib.hid (fun j hj => keep_below hB _ _ (HT.out j hj))
          replace HP := Lib.hid (HP.out.keep (keep_below hB))
          replace HU := Lib.hid (HU.out.grow hB)
          replace HX := Lib.hid (HX.out.grow hB)
          replace HAU := Lib.hid (HAU.out.below hB)
          replace HAX := Lib.hid (HAX.out.below hB)
          replace HP1 := Lib.hid (HP1.out.keep (keep_below hB))
          replace HA1 := Lib.hid (HA1.out.below hB)
          replace HP2 := Lib.hid (HP2.out.keep (keep_below hB))
          replace HA2 := Lib.hid (HA2.out.below hB)
          replace HB := Lib.hid (HB.out.trans (hB.mono HB.out.size))
          rw [show (b == b) = true by simp]
          clear hB
          have cHAU := HAU.out.2.1
          have cHAX := HAX.out.2.1
          have cHA1 := HA1.out.2.1
          have dHA1 := HA1.out.2.2.1
          have cHA2 := HA2.out.2.1
          have dHA2 := HA2.out.2.2.1
          go_wp2_with fail
          refine (len_calls _ [] _ HP2.out).mono ?_
          clear cHAU cHAX cHA1 dHA1 cHA2 dHA2
          rintro e W13 ⟨rfl, hB⟩
          replace HS1 := Lib.hid (HS1.out.below hB)
          replace HS2 := Lib.hid (HS2.out.below hB)
          replace HXS := Lib.hid (HXS.out.below hB)
          replace HYS := Lib.hid (HYS.out.below hB)
          replace HT := Lib.hid (fun j hj => keep_below hB _ _ (HT.out j hj))
          replace HP := Lib.hid (HP.out.keep (keep_below hB))
          replace HU := Lib.hid (HU.out.grow hB)
          replace HX := Lib.hid (HX.out.grow hB)
          replace HAU := Lib.hid (HAU.out.below hB)
          replace HAX := Lib.hid (HAX.out.below hB)
          replace HP1 := Lib.hid (HP1.out.keep (keep_below hB))
          replace HA1 := Lib.hid (HA1.out.below hB)
          replace HP2 := Lib.hid (HP2.out.keep (keep_below hB))
          replace HA2 := Lib.hid (HA2.out.below hB)
          replace HB := Lib.hid (HB.out.trans (hB.mono HB.out.size))
          simp only [List.length_nil]
          clear hB
          have cHAU := HAU.out.2.1
          have cHAX := HAX.out.2.1
          have cHA1 := HA1.out.2.1
          have dHA1 := HA1.out.2.2.1
          have cHA2 := HA2.out.2.1
          have dHA2 := HA2.out.2.2.1
          go_wp2_with fail
          refine (awake4_calls _).mono ?_
          clear cHAU cHAX cHA1 dHA1 cHA2 dHA2
          rintro e W14 ⟨rfl, hB⟩
          replace HS1 := Lib.hid (HS1.out.below hB)
          replace HS2 := Lib.hid (HS2.out.below hB)
          replace HXS := Lib.hid (HXS.out.below hB)
          replace HYS := Lib.hid (HYS.out.below hB)
          replace HT := Lib.hid (fun j hj => keep_below hB _ _ (HT.out j hj))
          replace HP := Lib.hid (HP.out.keep (keep_below hB))
          replace HU := Lib.hid (HU.out.grow hB)
          replace HX := Lib.hid (HX.out.grow hB)
          replace HAU := Lib.hid (HAU.out.below hB)
          replace HAX := Lib.hid (HAX.out.below hB)
          replace HP1 := Lib.hid (HP1.out.keep (keep_below hB))
          replace HA1 := Lib.hid (HA1.out.below hB)
          replace HP2 := Lib.hid (HP2.out.keep (keep_below hB))
          replace HA2 := Lib.hid (HA2.out.below hB)
          replace HB := Lib.hid (HB.out.trans (hB.mono HB.out.size))
          clear hB
          have cHAU := HAU.out.2.1
          have cHAX := HAX.out.2.1
          have cHA1 := HA1.out.2.1
          have dHA1 := HA1.out.2.2.1
          have cHA2 := HA2.out.2.1
          have dHA2 := HA2.out.2.2.1
          go_wp2
          go_ret
          exact ⟨rfl, HB.out⟩
end Go.Proofs.YtlgaelndboeapaaDoor

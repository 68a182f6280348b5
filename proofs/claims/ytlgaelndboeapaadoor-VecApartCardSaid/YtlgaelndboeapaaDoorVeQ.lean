/- Package vec's law: shows. -/
import Derived.Test.YtlgaelndboeapaaDoorVeP
namespace Go.Proofs.YtlgaelndboeapaaDoor
open Go.RowKit Fl
set_option linter.unusedVariables false
set_option maxRecDepth 8000

theorem num_ord {x : Nat} (h : Num x) : FloatKind.f64.format.order x x = some .eq := ord_eq h.1 h.1 rfl

set_option maxHeartbeats 8000000 in
theorem shows_whole {ok ok2 : Nat → Prop} (u v2 : Value) (V : VV) (w : World) (h : IsV w ok u V) (hok : V.ok) (hT : TabAt w) (h2 : Slc w ok2 v2 V.nums.length (f64s V.nums)) (hN : ∀ x ∈ V.nums, Num x)
    (hlen : V.nums.length = V.len) (hcls : V.cls = 0) (htext : V.text = []) (hbox : V.boxs = []) (hwh : V.isWh = true) (hmap : V.nums = V.whs.map (floatOfInt .f64)) :
    Calls Tryd.prog 13 #[.agg #[u], .int .i64 V.kind, v2, .bool true] w fun e w' => e = .returned (.bool true) ∧ Below w.heap.size w w' := by
  have hmax := VV.ok_len hok
  have HOK := Lib.hid hok
  have HT := Lib.hid hT
  have HNu := Lib.hid hN
  have HLEN := Lib.hid hlen
  have HCLS := Lib.hid hcls
  have HTEXT := Lib.hid htext
  have HBOX := Lib.hid hbox
  have HWH := Lib.hid hwh
  have HMAP := Lib.hid hmap
  have HS2 := Lib.hid (show Slc w ok2 v2 V.len (f64s V.nums) by rw [← hlen]; exact h2)
  have HH := Lib.hid h
  clear hok hT hN hcls htext hbox hwh hmap h h2 hlen
  obtain ⟨n, hn⟩ : ∃ n, n = V.len := ⟨_, rfl⟩
  obtain ⟨kd, hkd⟩ : ∃ kd, kd = V.kind := ⟨_, rfl⟩
  have HN := Lib.hid hn
  have HKD := Lib.hid hkd
  rw [← hn] at HS2 hmax
  rw [← hkd]
  obtain ⟨ao2, cap2, rfl, _, _, _, _⟩ := HS2.out.opened
  have hb1 : (kd != kd) = false := by simp
  have hb2 : ((n : Int) != (n : Int)) = false := by simp
  clear hn hkd
  obtain ⟨W0, hW0⟩ : ∃ W0, W0 = w.alloc (.cells #[u] 29) := ⟨_, rfl⟩
  have HB0 := Lib.hid (show Below w.heap.size w W0 by rw [hW0]; exact below_new _ _)
  have HA0 := Lib.hid (show At1 W0 w.heap.size u by rw [hW0]; exact At1.new _ _ _)
  have HU0 := Lib.hid (show IsV W0 ok u V from HH.out.grow HB0.out)
  go_enter Tryd.func13, Tryd.ntmps13
  go_wp2_with fail
  rw [← hW0]
  clear hW0
  refine (vwholes_calls _ _ _ HU0.out HOK.out (fun j hj => keep_below HB0.out _ _ (HT.out j hj))).mono ?_
  rintro e W1 ⟨v3, rfl, hws, hB⟩
  obtain ⟨_, a0, _⟩ := HA0.out.below hB
  have HA1 := Lib.hid (HA0.out.below hB)
  have HU1 := Lib.hid (HU0.out.grow hB)
  have HB1 := Lib.hid (HB0.out.trans (hB.mono HB0.out.size))
  have HWS1 := Lib.hid hws
  have H11 := Lib.hid (Below.refl W1.heap.size W1)
  clear hB
  have HZL := Lib.hid (show V.whs.length = n by have := HLEN.out; rw [HMAP.out, List.length_map] at this; rw [this]; exact HN.out.symm)
  rw [HZL.out] at HWS1
  obtain ⟨ao3, cap3, rfl, _, _, _, _⟩ := HWS1.out.opened
  clear hws
  rw [HWH.out]
  go_wp2_with fail
  refine (kind_calls _ _ _ HU1.out).mono ?_
  rintro e W2 ⟨rfl, hB⟩
  obtain ⟨_, a0, _⟩ := HA1.out.below hB
  have HA2 := Lib.hid (HA1.out.below hB)
  have HU2 := Lib.hid (HU1.out.grow hB)
  have HB2 := Lib.hid (HB1.out.trans (hB.mono HB1.out.size))
  have H12 := Lib.hid (H11.out.trans (hB.mono H11.out.size))
  clear hB
  rw [← HKD.out]
  go_wp2_with fail
  refine (class_calls _ _ _ HU2.out).mono ?_
  rintro e W3 ⟨rfl, hB⟩
  obtain ⟨_, a0, _⟩ := HA2.out.below hB
  have HA3 := Lib.hid (HA2.out.below hB)
  have HU3 := Lib.hid (HU2.out.grow hB)
  have HB3 := Lib.hid (HB2.out.trans (hB.mono HB2.out.size))
  have H13 := Lib.hid (H12.out.trans (hB.mono H12.out.size))
  clear hB
  rw [HCLS.out]
  go_wp2_with fail
  refine (vlen_calls _ _ _ HU3.out).mono ?_
  rintro e W4 ⟨rfl, hB⟩
  obtain ⟨_, a0, _⟩ := HA3.out.below hB
  have HA4 := Lib.hid (HA3.out.below hB)
  have HU4 := Lib.hid (HU3.out.grow hB)
  have HB4 := Lib.hid (HB3.out.trans (hB.mono HB3.out.size))
  have H14 := Lib.hid (H13.out.trans (hB.mono H13.out.size))
  clear hB
  rw [← HN.out]
  go_wp2_with fail
  refine (vnums_calls _ _ _ HU4.out HOK.out (fun j hj => keep_below HB4.out _ _ (HT.out j hj))).mono ?_
  rintro e W5 ⟨v4, rfl, hns, hB⟩
  obtain ⟨_, a0, _⟩ := HA4.out.below hB
  have HA5 := Lib.hid (HA4.out.below hB)
  have HU5 := Lib.hid (HU4.out.grow hB)
  have HB5 := Lib.hid (HB4.out.trans (hB.mono HB4.out.size))
  have H15 := Lib.hid (H14.out.trans (hB.mono H14.out.size))
  have HNS := Lib.hid hns
  clear hB
  clear hns
  have HS25 := Lib.hid (show Slc W5 ok2 (.slice ao2 n cap2) V.nums.length (f64s V.nums) by rw [HLEN.out, ← HN.out]; exact HS2.out.below HB5.out)
  go_wp2_with fail
  refine (floats_same _ _ V.nums _ HNS.out HS25.out (by rw [HLEN.out, ← HN.out]; omega) HNu.out).mono ?_
  rintro e W6 ⟨rfl, hB⟩
  obtain ⟨_, a0, _⟩ := HA5.out.below hB
  have HA6 := Lib.hid (HA5.out.below hB)
  have HU6 := Lib.hid (HU5.out.grow hB)
  have HB6 := Lib.hid (HB5.out.trans (hB.mono HB5.out.size))
  have H16 := Lib.hid (H15.out.trans (hB.mono H15.out.size))
  clear hB
  go_wp2_with fail
  refine (vtext_calls _ _ _ HU6.out HOK.out).mono ?_
  rintro e W7 ⟨v5, rfl, htx, hB⟩
  obtain ⟨_, a0, _⟩ := HA6.out.below hB
  have HA7 := Lib.hid (HA6.out.below hB)
  have HU7 := Lib.hid (HU6.out.grow hB)
  have HB7 := Lib.hid (HB6.out.trans (hB.mono HB6.out.size))
  have H17 := Lib.hid (H16.out.trans (hB.mono H16.out.size))
  rw [HTEXT.out] at htx
  obtain ⟨ao5, cap5, rfl, _, _, _, _⟩ := htx.opened
  clear hB
  clear htx
  simp only [List.length_nil]
  go_wp2_with fail
  refine (varrays_calls _ _ _ HU7.out HOK.out).mono ?_
  rintro e W8 ⟨v6, rfl, harr, hB⟩
  obtain ⟨_, a0, _⟩ := HA7.out.below hB
  have HA8 := Lib.hid (HA7.out.below hB)
  have HU8 := Lib.hid (HU7.out.grow hB)
  have HB8 := Lib.hid (HB7.out.trans (hB.mono HB7.out.size))
  have H18 := Lib.hid (H17.out.trans (hB.mono H17.out.size))
  rw [HBOX.out] at harr
  obtain ⟨ao6, cap6, _, _, rfl, _⟩ := harr
  clear hB
  simp only [List.length_nil]
  go_wp2
  go_loopw [11] (fun i wr => ∃ k : Nat, k ≤ n ∧ i = .int .i64 k ∧ Below W8.heap.size W8 wr) (fun i _ => n - (intOf i).toNat)
  case atStart => exact ⟨0, by omega, rfl, Below.refl _ _⟩
  case round =>
    obtain ⟨k, hk, rfl, hBr⟩ := hrel
    have HBr := Lib.hid hBr
    have HAr := Lib.hid (HA8.out.below hBr)
    have HUr := Lib.hid (HU8.out.grow hBr)
    have HBw := Lib.hid (HB8.out.trans (hBr.mono HB8.out.size))
    obtain ⟨_, a0, _⟩ := HAr.out
    clear hBr
    by_cases hlt : k < n
    · have hln : k < V.nums.length := by rw [HLEN.out, ← HN.out]; exact hlt
      obtain ⟨b, off, cap', x, e1, hx, hcx⟩ := Slc.at_map (Value.float .f64) (show Slc w ok2 (.slice ao2 n cap2) V.nums.length (V.nums.map (Value.float .f64)) by rw [HLEN.out, ← HN.out]; exact HS2.out) k hln
      obtain ⟨e1a, e1b⟩ : ao2 = some ⟨b, off, none⟩ ∧ cap2 = cap' := by cases e1; exact ⟨rfl, rfl⟩
      subst e1a
      have HX := Lib.hid hx
      have HCX := Lib.hid hcx
      have HE := Lib.hid (num_ord (HNu.out x (List.mem_of_getElem? hx)))
      have HNUM := Lib.hid (show ∀ wx, Below W8.heap.size W8 wx → Calls Tryd.prog 30 #[.agg #[u], .int .i64 (k : Int)] wx fun e w' => e = .returned (.float .f64 x) ∧ Below wx.heap.size wx w' from fun wx hx => by
        have := num_calls u V (k : Int) wx (HU8.out.grow hx)
        rwa [atI_some HX.out] at this)
      have HCH := Lib.hid (show ∀ wx, Below W8.heap.size W8 wx → Calls Tryd.prog 29 #[.agg #[u], .int .i64 (k : Int)] wx fun e w' => e = .returned (.int .i32 0) ∧ Below wx.heap.size wx w' from fun wx hx => by
        have := vchar_calls u V (k : Int) wx (HU8.out.grow hx)
        rwa [HTEXT.out, show atI ([] : List Int) 0 (k : Int) = 0 by simp [atI]] at this)
      clear hx hcx hln e1 e1b
      obtain ⟨b3, off3, cap3', z, e3, hz, hcz⟩ := Slc.at_map (Value.int .i64) (show Slc W1 _ (.slice ao3 n cap3) V.whs.length (V.whs.map (Value.int .i64)) by rw [HZL.out]; exact HWS1.out) k (by rw [HZL.out]; exact hlt)
      obtain ⟨e3a, e3b⟩ : ao3 = some ⟨b3, off3, none⟩ ∧ cap3 = cap3' := by cases e3; exact ⟨rfl, rfl⟩
      subst e3a
      have hxz : x = floatOfInt .f64 z := by
        have := HX.out
        rw [HMAP.out, List.getElem?_map, hz] at this
        exact (Option.some.inj this).symm
      subst hxz
      have HZ := Lib.hid hz
      have HCZ := Lib.hid hcz
      clear hz hcz e3 e3b
      have hcv : ∀ w, (convert 2 26 (.int .i64 z)).run Tryd.prog w = .ok (.float .f64 (floatOfInt .f64 z)) w := fun w => run_convert_int_float w 2 26 .i64 .f64 z (by kernel_rfl) (by kernel_rfl)
      have hbz : (z != z) = false := by simp
      have HWHL := Lib.hid (show ∀ wx, Below W8.heap.size W8 wx → Calls Tryd.prog 38 #[.agg #[u], .int .i64 (k : Int)] wx fun e w' => e = .returned (.tuple #[.int .i64 z, .bool true]) ∧ Below wx.heap.size wx w' from fun wx hx => by
        have := whole_calls u V (k : Int) wx (HU8.out.grow hx) HOK.out
        rwa [atI_some HZ.out, HWH.out, decide_eq_true (show (0 : Int) ≤ (k : Int) ∧ (k : Int) < (V.len : Int) by rw [← HN.out]; omega)] at this)
      have ho := HE.out
      go_wp2_with fail
      refine (HWHL.out _ HBr.out).mono ?_
      rintro e w2 ⟨rfl, hB⟩
      have HB2 := Lib.hid (HBr.out.trans (hB.mono HBr.out.size))
      clear hB
      go_wp2
      refine region_grow W8 (by kernel_rfl) (by kernel_rfl) HB2.out ?_
      intro Ω _ WW hW hI
      have HW' := Lib.hid hW
      have HI' := Lib.hid hI
      have d0 := fun y => ((HA8.out.below (hW y)).2.1)
      have d1 := fun y => keep_below (HB8.out.trans ((hW y).mono HB8.out.size)) _ _ HCX.out
      have d2 := fun y => keep_below (H18.out.trans ((hW y).mono H18.out.size)) _ _ HCZ.out
      clear hW hI
      repeat (go_big_quiet_step ((first | (go_at_call 30; exact Calls.quiet_grow HW'.out HI'.out (HNUM.out _ (HW'.out _))) | (go_at_call 29; exact Calls.quiet_grow HW'.out HI'.out (HCH.out _ (HW'.out _))))))
      refine wpQuiet_nil ?_
      rintro w3 ⟨y, rfl⟩
      go_wp2
      go_roundw
      case rel => exact ⟨k + 1, by omega, by go_num, HW'.out y⟩
      case measure => simp [intOf]; omega
    · have hkl : k = n := by omega
      have HWHN := Lib.hid (show ∀ wx, Below W8.heap.size W8 wx → Calls Tryd.prog 38 #[.agg #[u], .int .i64 (n : Int)] wx fun e w' => e = .returned (.tuple #[.int .i64 0, .bool false]) ∧ Below wx.heap.size wx w' from fun wx hx => by
        have := whole_calls u V (n : Int) wx (HU8.out.grow hx) HOK.out
        rwa [VV.whs_len (by rw [← HN.out]; omega), decide_eq_false (by rw [← HN.out]; omega), Bool.and_false] at this)
      have HNUMN := Lib.hid (show ∀ wx, Below W8.heap.size W8 wx → Calls Tryd.prog 30 #[.agg #[u], .int .i64 (n : Int)] wx fun e w' => e = .returned (.float .f64 0) ∧ Below wx.heap.size wx w' from fun wx hx => by
        have := num_calls u V (n : Int) wx (HU8.out.grow hx)
        rwa [VV.nums_len (by rw [← HN.out]; omega)] at this)
      have HNUMM := Lib.hid (show ∀ wx, Below W8.heap.size W8 wx → Calls Tryd.prog 30 #[.agg #[u], .int .i64 (-1)] wx fun e w' => e = .returned (.float .f64 0) ∧ Below wx.heap.size wx w' from fun wx hx => by
        have := num_calls u V (-1) wx (HU8.out.grow hx)
        rwa [VV.nums_len (by omega)] at this)
      have ho0 : FloatKind.f64.format.order 0 0 = some .eq := by decide
      clear hkl
      go_wp2_with fail
      refine (HWHN.out _ HBr.out).mono ?_
      rintro e w2 ⟨rfl, hB⟩
      have HB2 := Lib.hid (HBr.out.trans (hB.mono HBr.out.size))
      clear hB
      obtain ⟨_, a1, _⟩ := HA8.out.below HB2.out
      go_wp2_with fail
      refine (HNUMN.out _ HB2.out).mono ?_
      rintro e w3 ⟨rfl, hB⟩
      have HB3 := Lib.hid (HB2.out.trans (hB.mono HB2.out.size))
      clear hB
      obtain ⟨_, a2, _⟩ := HA8.out.below HB3.out
      go_wp2_with fail
      refine (HNUMM.out _ HB3.out).mono ?_
      rintro e w4 ⟨rfl, hB⟩
      have HB4 := Lib.hid (HB3.out.trans (hB.mono HB3.out.size))
      clear hB
      go_wp2
      go_ret
      exact ⟨rfl, HB8.out.trans (HB4.out.mono HB8.out.size)⟩

set_option maxHeartbeats 8000000 in
theorem shows_other {ok ok2 : Nat → Prop} (u v2 : Value) (V : VV) (w : World) (h : IsV w ok u V) (hok : V.ok) (hT : TabAt w) (h2 : Slc w ok2 v2 V.nums.length (f64s V.nums)) (hN : ∀ x ∈ V.nums, Num x)
    (hlen : V.nums.length = V.len) (hcls : V.cls = 0) (htext : V.text = []) (hbox : V.boxs = []) (hwh : V.isWh = false) (hw0 : V.whs = []) :
    Calls Tryd.prog 13 #[.agg #[u], .int .i64 V.kind, v2, .bool false] w fun e w' => e = .returned (.bool true) ∧ Below w.heap.size w w' := by
  have hmax := VV.ok_len hok
  have HOK := Lib.hid hok
  have HT := Lib.hid hT
  have HNu := Lib.hid hN
  have HLEN := Lib.hid hlen
  have HCLS := Lib.hid hcls
  have HTEXT := Lib.hid htext
  have HBOX := Lib.hid hbox
  have HWH := Lib.hid hwh
  have HW0 := Lib.hid hw0
  have HS2 := Lib.hid (show Slc w ok2 v2 V.len (f64s V.nums) by rw [← hlen]; exact h2)
  have HH := Lib.hid h
  clear hok hT hN hcls htext hbox hwh hw0 h h2 hlen
  obtain ⟨n, hn⟩ : ∃ n, n = V.len := ⟨_, rfl⟩
  obtain ⟨kd, hkd⟩ : ∃ kd, kd = V.kind := ⟨_, rfl⟩
  have HN := Lib.hid hn
  have HKD := Lib.hid hkd
  rw [← hn] at HS2 hmax
  rw [← hkd]
  obtain ⟨ao2, cap2, rfl, _, _, _, _⟩ := HS2.out.opened
  have hb1 : (kd != kd) = false := by simp
  have hb2 : ((n : Int) != (n : Int)) = false := by simp
  clear hn hkd
  obtain ⟨W0, hW0⟩ : ∃ W0, W0 = w.alloc (.cells #[u] 29) := ⟨_, rfl⟩
  have HB0 := Lib.hid (show Below w.heap.size w W0 by rw [hW0]; exact below_new _ _)
  have HA0 := Lib.hid (show At1 W0 w.heap.size u by rw [hW0]; exact At1.new _ _ _)
  have HU0 := Lib.hid (show IsV W0 ok u V from HH.out.grow HB0.out)
  go_enter Tryd.func13, Tryd.ntmps13
  go_wp2_with fail
  rw [← hW0]
  clear hW0
  refine (vwholes_calls _ _ _ HU0.out HOK.out (fun j hj => keep_below HB0.out _ _ (HT.out j hj))).mono ?_
  rintro e W1 ⟨v3, rfl, hws, hB⟩
  obtain ⟨_, a0, _⟩ := HA0.out.below hB
  have HA1 := Lib.hid (HA0.out.below hB)
  have HU1 := Lib.hid (HU0.out.grow hB)
  have HB1 := Lib.hid (HB0.out.trans (hB.mono HB0.out.size))
  have HWS1 := Lib.hid hws
  have H11 := Lib.hid (Below.refl W1.heap.size W1)
  clear hB
  rw [HW0.out] at HWS1
  obtain ⟨ao3, cap3, rfl, _, _, _, _⟩ := HWS1.out.opened
  clear hws
  rw [HWH.out]
  go_wp2_with fail
  refine (kind_calls _ _ _ HU1.out).mono ?_
  rintro e W2 ⟨rfl, hB⟩
  obtain ⟨_, a0, _⟩ := HA1.out.below hB
  have HA2 := Lib.hid (HA1.out.below hB)
  have HU2 := Lib.hid (HU1.out.grow hB)
  have HB2 := Lib.hid (HB1.out.trans (hB.mono HB1.out.size))
  have H12 := Lib.hid (H11.out.trans (hB.mono H11.out.size))
  clear hB
  rw [← HKD.out]
  go_wp2_with fail
  refine (class_calls _ _ _ HU2.out).mono ?_
  rintro e W3 ⟨rfl, hB⟩
  obtain ⟨_, a0, _⟩ := HA2.out.below hB
  have HA3 := Lib.hid (HA2.out.below hB)
  have HU3 := Lib.hid (HU2.out.grow hB)
  have HB3 := Lib.hid (HB2.out.trans (hB.mono HB2.out.size))
  have H13 := Lib.hid (H12.out.trans (hB.mono H12.out.size))
  clear hB
  rw [HCLS.out]
  go_wp2_with fail
  refine (vlen_calls _ _ _ HU3.out).mono ?_
  rintro e W4 ⟨rfl, hB⟩
  obtain ⟨_, a0, _⟩ := HA3.out.below hB
  have HA4 := Lib.hid (HA3.out.below hB)
  have HU4 := Lib.hid (HU3.out.grow hB)
  have HB4 := Lib.hid (HB3.out.trans (hB.mono HB3.out.size))
  have H14 := Lib.hid (H13.out.trans (hB.mono H13.out.size))
  clear hB
  rw [← HN.out]
  go_wp2_with fail
  refine (vnums_calls _ _ _ HU4.out HOK.out (fun j hj => keep_below HB4.out _ _ (HT.out j hj))).mono ?_
  rintro e W5 ⟨v4, rfl, hns, hB⟩
  obtain ⟨_, a0, _⟩ := HA4.out.below hB
  have HA5 := Lib.hid (HA4.out.below hB)
  have HU5 := Lib.hid (HU4.out.grow hB)
  have HB5 := Lib.hid (HB4.out.trans (hB.mono HB4.out.size))
  have H15 := Lib.hid (H14.out.trans (hB.mono H14.out.size))
  have HNS := Lib.hid hns
  clear hB
  clear hns
  have HS25 := Lib.hid (show Slc W5 ok2 (.slice ao2 n cap2) V.nums.length (f64s V.nums) by rw [HLEN.out, ← HN.out]; exact HS2.out.below HB5.out)
  go_wp2_with fail
  refine (floats_same _ _ V.nums _ HNS.out HS25.out (by rw [HLEN.out, ← HN.out]; omega) HNu.out).mono ?_
  rintro e W6 ⟨rfl, hB⟩
  obtain ⟨_, a0, _⟩ := HA5.out.below hB
  have HA6 := Lib.hid (HA5.out.below hB)
  have HU6 := Lib.hid (HU5.out.grow hB)
  have HB6 := Lib.hid (HB5.out.trans (hB.mono HB5.out.size))
  have H16 := Lib.hid (H15.out.trans (hB.mono H15.out.size))
  clear hB
  go_wp2_with fail
  refine (vtext_calls _ _ _ HU6.out HOK.out).mono ?_
  rintro e W7 ⟨v5, rfl, htx, hB⟩
  obtain ⟨_, a0, _⟩ := HA6.out.below hB
  have HA7 := Lib.hid (HA6.out.below hB)
  have HU7 := Lib.hid (HU6.out.grow hB)
  have HB7 := Lib.hid (HB6.out.trans (hB.mono HB6.out.size))
  have H17 := Lib.hid (H16.out.trans (hB.mono H16.out.size))
  rw [HTEXT.out] at htx
  obtain ⟨ao5, cap5, rfl, _, _, _, _⟩ := htx.opened
  clear hB
  clear htx
  simp only [List.length_nil]
  go_wp2_with fail
  refine (varrays_calls _ _ _ HU7.out HOK.out).mono ?_
  rintro e W8 ⟨v6, rfl, harr, hB⟩
  obtain ⟨_, a0, _⟩ := HA7.out.below hB
  have HA8 := Lib.hid (HA7.out.below hB)
  have HU8 := Lib.hid (HU7.out.grow hB)
  have HB8 := Lib.hid (HB7.out.trans (hB.mono HB7.out.size))
  have H18 := Lib.hid (H17.out.trans (hB.mono H17.out.size))
  rw [HBOX.out] at harr
  obtain ⟨ao6, cap6, _, _, rfl, _⟩ := harr
  clear hB
  simp only [List.length_nil]
  go_wp2
  go_loopw [11] (fun i wr => ∃ k : Nat, k ≤ n ∧ i = .int .i64 k ∧ Below W8.heap.size W8 wr) (fun i _ => n - (intOf i).toNat)
  case atStart => exact ⟨0, by omega, rfl, Below.refl _ _⟩
  case round =>
    obtain ⟨k, hk, rfl, hBr⟩ := hrel
    have HBr := Lib.hid hBr
    have HAr := Lib.hid (HA8.out.below hBr)
    have HUr := Lib.hid (HU8.out.grow hBr)
    have HBw := Lib.hid (HB8.out.trans (hBr.mono HB8.out.size))
    obtain ⟨_, a0, _⟩ := HAr.out
    clear hBr
    by_cases hlt : k < n
    · have hln : k < V.nums.length := by rw [HLEN.out, ← HN.out]; exact hlt
      obtain ⟨b, off, cap', x, e1, hx, hcx⟩ := Slc.at_map (Value.float .f64) (show Slc w ok2 (.slice ao2 n cap2) V.nums.length (V.nums.map (Value.float .f64)) by rw [HLEN.out, ← HN.out]; exact HS2.out) k hln
      obtain ⟨e1a, e1b⟩ : ao2 = some ⟨b, off, none⟩ ∧ cap2 = cap' := by cases e1; exact ⟨rfl, rfl⟩
      subst e1a
      have HX := Lib.hid hx
      have HCX := Lib.hid hcx
      have HE := Lib.hid (num_ord (HNu.out x (List.mem_of_getElem? hx)))
      have HNUM := Lib.hid (show ∀ wx, Below W8.heap.size W8 wx → Calls Tryd.prog 30 #[.agg #[u], .int .i64 (k : Int)] wx fun e w' => e = .returned (.float .f64 x) ∧ Below wx.heap.size wx w' from fun wx hx => by
        have := num_calls u V (k : Int) wx (HU8.out.grow hx)
        rwa [atI_some HX.out] at this)
      have HCH := Lib.hid (show ∀ wx, Below W8.heap.size W8 wx → Calls Tryd.prog 29 #[.agg #[u], .int .i64 (k : Int)] wx fun e w' => e = .returned (.int .i32 0) ∧ Below wx.heap.size wx w' from fun wx hx => by
        have := vchar_calls u V (k : Int) wx (HU8.out.grow hx)
        rwa [HTEXT.out, show atI ([] : List Int) 0 (k : Int) = 0 by simp [atI]] at this)
      clear hx hcx hln e1 e1b
      have ho := HE.out
      have HWHL := Lib.hid (show ∀ wx, Below W8.heap.size W8 wx → Calls Tryd.prog 38 #[.agg #[u], .int .i64 (k : Int)] wx fun e w' => e = .returned (.tuple #[.int .i64 0, .bool false]) ∧ Below wx.heap.size wx w' from fun wx hx => by
        have := whole_calls u V (k : Int) wx (HU8.out.grow hx) HOK.out
        rwa [HW0.out, show atI ([] : List Int) 0 (k : Int) = 0 by simp [atI], HWH.out, Bool.false_and] at this)
      go_wp2_with fail
      refine (HWHL.out _ HBr.out).mono ?_
      rintro e w2 ⟨rfl, hB⟩
      have HB2 := Lib.hid (HBr.out.trans (hB.mono HBr.out.size))
      clear hB
      go_wp2
      refine region_grow W8 (by kernel_rfl) (by kernel_rfl) HB2.out ?_
      intro Ω _ WW hW hI
      have HW' := Lib.hid hW
      have HI' := Lib.hid hI
      have d0 := fun y => ((HA8.out.below (hW y)).2.1)
      have d1 := fun y => keep_below (HB8.out.trans ((hW y).mono HB8.out.size)) _ _ HCX.out
      clear hW hI
      repeat (go_big_quiet_step ((first | (go_at_call 30; exact Calls.quiet_grow HW'.out HI'.out (HNUM.out _ (HW'.out _))) | (go_at_call 29; exact Calls.quiet_grow HW'.out HI'.out (HCH.out _ (HW'.out _))))))
      refine wpQuiet_nil ?_
      rintro w3 ⟨y, rfl⟩
      go_wp2
      go_roundw
      case rel => exact ⟨k + 1, by omega, by go_num, HW'.out y⟩
      case measure => simp [intOf]; omega
    · have hkl : k = n := by omega
      have HWHN := Lib.hid (show ∀ wx, Below W8.heap.size W8 wx → Calls Tryd.prog 38 #[.agg #[u], .int .i64 (n : Int)] wx fun e w' => e = .returned (.tuple #[.int .i64 0, .bool false]) ∧ Below wx.heap.size wx w' from fun wx hx => by
        have := whole_calls u V (n : Int) wx (HU8.out.grow hx) HOK.out
        rwa [VV.whs_len (by rw [← HN.out]; omega), decide_eq_false (by rw [← HN.out]; omega), Bool.and_false] at this)
      have HNUMN := Lib.hid (show ∀ wx, Below W8.heap.size W8 wx → Calls Tryd.prog 30 #[.agg #[u], .int .i64 (n : Int)] wx fun e w' => e = .returned (.float .f64 0) ∧ Below wx.heap.size wx w' from fun wx hx => by
        have := num_calls u V (n : Int) wx (HU8.out.grow hx)
        rwa [VV.nums_len (by rw [← HN.out]; omega)] at this)
      have HNUMM := Lib.hid (show ∀ wx, Below W8.heap.size W8 wx → Calls Tryd.prog 30 #[.agg #[u], .int .i64 (-1)] wx fun e w' => e = .returned (.float .f64 0) ∧ Below wx.heap.size wx w' from fun wx hx => by
        have := num_calls u V (-1) wx (HU8.out.grow hx)
        rwa [VV.nums_len (by omega)] at this)
      have ho0 : FloatKind.f64.format.order 0 0 = some .eq := by decide
      clear hkl
      go_wp2_with fail
      refine (HWHN.out _ HBr.out).mono ?_
      rintro e w2 ⟨rfl, hB⟩
      have HB2 := Lib.hid (HBr.out.trans (hB.mono HBr.out.size))
      clear hB
      obtain ⟨_, a1, _⟩ := HA8.out.below HB2.out
      go_wp2_with fail
      refine (HNUMN.out _ HB2.out).mono ?_
      rintro e w3 ⟨rfl, hB⟩
      have HB3 := Lib.hid (HB2.out.trans (hB.mono HB2.out.size))
      clear hB
      obtain ⟨_, a2, _⟩ := HA8.out.below HB3.out
      go_wp2_with fail
      refine (HNUMM.out _ HB3.out).mono ?_
      rintro e w4 ⟨rfl, hB⟩
      have HB4 := Lib.hid (HB3.out.trans (hB.mono HB3.out.size))
      clear hB
      go_wp2
      go_ret
      exact ⟨rfl, HB8.out.trans (HB4.out.mono HB8.out.size)⟩
end Go.Proofs.YtlgaelndboeapaaDoor

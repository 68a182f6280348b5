/- The reference's kinds of numbers, walked: Least, Fits. -/
import Derived.Test.YtnicoddkbcfijaaDoorSqM
import Derived.Test.YtnicoddkbcfijaaDoorNuF
import Derived.Test.YtnicoddkbcfijaaDoorVeN
namespace Go.Proofs.YtnicoddkbcfijaaDoor
open Go.RowKit Fl
set_option linter.unusedVariables false
set_option maxRecDepth 8000

theorem ord_int {x c : Nat} {n m : Int} (h : Wh x n) (hm : m.natAbs ≤ 9007199254740992) (hc : floatOfInt .f64 m = c) :
    (n < m ∧ FloatKind.f64.format.order x c = some .lt) ∨ (n = m ∧ FloatKind.f64.format.order x c = some .eq) ∨ (m < n ∧ FloatKind.f64.format.order x c = some .gt) := by
  subst hc
  have := wh_lt h (ofInt_fin m (by omega)) (ofInt_val m hm)
  rcases Int.lt_trichotomy n m with hlt | heq | hgt
  · exact .inl ⟨hlt, this.1 hlt⟩
  · exact .inr (.inl ⟨heq, this.2.1 heq⟩)
  · exact .inr (.inr ⟨hgt, this.2.2 hgt⟩)
theorem c_m128 : floatOfInt .f64 (-128) = 13862079653046386688 := by decide +kernel
theorem c_127 : floatOfInt .f64 127 = 4638637247447433216 := by decide +kernel
theorem c_0 : floatOfInt .f64 0 = 0 := by decide +kernel
theorem c_1 : floatOfInt .f64 1 = 4607182418800017408 := by decide +kernel
theorem kz3 {n : Int} (h : n < -128 ∨ 127 < n) : kindZ n = 3 := by unfold kindZ; rw [if_neg (by omega), if_neg (by omega)]
theorem kz2 {n : Int} (h1 : -128 ≤ n) (h2 : n ≤ 127) (h3 : n ≠ 0) (h4 : n ≠ 1) : kindZ n = 2 := by unfold kindZ; rw [if_neg (by omega), if_pos ⟨h1, h2⟩]
theorem kz1 {n : Int} (h : n = 0 ∨ n = 1) : kindZ n = 1 := by unfold kindZ; rw [if_pos h]

set_option maxHeartbeats 4000000 in
theorem rleast_calls {ok : Nat → Prop} (v : Value) (l : List Nat) (w : World) (hv : Slc w ok v l.length (f64s l)) (hm : l.length ≤ 9223372036854775807) (hN : ∀ x ∈ l, Num x) :
    Calls Tryd.prog 14 #[v] w fun e w' => e = .returned (.int .i64 (leastW l : Int)) ∧ w = w' := by
  have HV := Lib.hid hv
  have HNu := Lib.hid hN
  obtain ⟨ao, cap, rfl, _⟩ := hv.opened
  clear hv hN
  have z1 : (some Ordering.lt != some Ordering.eq) = true := by decide
  have z2 : (some Ordering.gt != some Ordering.eq) = true := by decide
  have z3 : (some Ordering.eq != some Ordering.eq) = false := by decide
  go_enter Tryd.func14, Tryd.ntmps14
  go_wp2
  go_loopw [3, 4] (fun q i wr => ∃ k : Nat, k ≤ l.length ∧ i = .int .i64 k ∧ q = .int .i64 (leastW (l.take k) : Int) ∧ wr = w ∧ leastW (l.take k) ≤ 3) (fun _ i _ => l.length - (intOf i).toNat)
  case atStart => exact ⟨0, by omega, rfl, by rw [List.take_zero, leastW_nil]; rfl, rfl, by rw [List.take_zero, leastW_nil]; omega⟩
  case round =>
    obtain ⟨k, hk, rfl, rfl, rfl, h3⟩ := hrel
    have hge := (leastW_le (l.take k)).1
    obtain ⟨q, hq⟩ : ∃ q, q = leastW (l.take k) := ⟨_, rfl⟩
    have HQ := Lib.hid hq
    rw [← hq] at h3 hge ⊢
    clear hq
    by_cases hlt : k < l.length
    · obtain ⟨b, off, cap', x, e1, hx, hcx⟩ := Slc.at_map (Value.float .f64) (show Slc _ ok (.slice ao l.length cap) l.length (l.map (Value.float .f64)) from HV.out) k hlt
      obtain ⟨e1a, e1b⟩ : ao = some ⟨b, off, none⟩ ∧ cap = cap' := by cases e1; exact ⟨rfl, rfl⟩
      subst e1a
      have HX := Lib.hid hx
      have HNx := Lib.hid (HNu.out x (List.mem_of_getElem? hx))
      have HTK := Lib.hid (leastW_take hx)
      rw [← HQ.out] at HTK
      clear hx e1 e1b
      by_cases hw : ∃ n, Wh x n
      · obtain ⟨n, hn⟩ := hw
        have HWn := Lib.hid hn
        rw [kindW_wh hn] at HTK
        have o1 := ord_int hn (m := -128) (by decide) c_m128
        have o2 := ord_int hn (m := 127) (by decide) c_127
        have o3 := ord_int hn (m := 0) (by decide) c_0
        have o4 := ord_int hn (m := 1) (by decide) c_1
        clear hn
        rcases o1 with ⟨g1, o1⟩ | ⟨g1, o1⟩ | ⟨g1, o1⟩
        · have HK := Lib.hid (show leastW (l.take (k + 1)) = 3 by rw [HTK.out, kz3 (.inl g1)]; omega)
          rcases o3 with ⟨g3, o3⟩ | ⟨g3, o3⟩ | ⟨g3, o3⟩
          · rcases o4 with ⟨g4, o4⟩ | ⟨g4, o4⟩ | ⟨g4, o4⟩
            · clear o2
              go_wp2_with fail
              refine (rwhole_yes x n _ HWn.out).mono ?_
              rintro e w' ⟨rfl, rfl⟩
              go_wp2
              go_roundw
              case rel => exact ⟨k + 1, by omega, by go_num, by rw [HK.out]; rfl, by trivial, by rw [HK.out]; omega⟩
              case measure => simp [intOf]; omega
            · omega
            · omega
          · omega
          · omega
        · rcases o2 with ⟨g2, o2⟩ | ⟨g2, o2⟩ | ⟨g2, o2⟩
          · rcases o3 with ⟨g3, o3⟩ | ⟨g3, o3⟩ | ⟨g3, o3⟩
            · rcases o4 with ⟨g4, o4⟩ | ⟨g4, o4⟩ | ⟨g4, o4⟩
              · by_cases hq2 : q < 2
                · have HK := Lib.hid (show leastW (l.take (k + 1)) = 2 by rw [HTK.out, kz2 (by omega) (by omega) (by omega) (by omega)]; omega)
                  go_wp2_with fail
                  refine (rwhole_yes x n _ HWn.out).mono ?_
                  rintro e w' ⟨rfl, rfl⟩
                  go_wp2
                  go_roundw
                  case rel => exact ⟨k + 1, by omega, by go_num, by rw [HK.out]; rfl, by trivial, by rw [HK.out]; omega⟩
                  case measure => simp [intOf]; omega
                · have HK := Lib.hid (show leastW (l.take (k + 1)) = q by rw [HTK.out, kz2 (by omega) (by omega) (by omega) (by omega)]; omega)
                  go_wp2_with fail
                  refine (rwhole_yes x n _ HWn.out).mono ?_
                  rintro e w' ⟨rfl, rfl⟩
                  go_wp2
                  go_roundw
                  case rel => exact ⟨k + 1, by omega, by go_num, by rw [HK.out], by trivial, by rw [HK.out]; omega⟩
                  case measure => simp [intOf]; omega
              · omega
              · omega
            · omega
            · omega
          · omega
          · omega
        · rcases o2 with ⟨g2, o2⟩ | ⟨g2, o2⟩ | ⟨g2, o2⟩
          · rcases o3 with ⟨g3, o3⟩ | ⟨g3, o3⟩ | ⟨g3, o3⟩
            · rcases o4 with ⟨g4, o4⟩ | ⟨g4, o4⟩ | ⟨g4, o4⟩
              · by_cases hq2 : q < 2
                · have HK := Lib.hid (show leastW (l.take (k + 1)) = 2 by rw [HTK.out, kz2 (by omega) (by omega) (by omega) (by omega)]; omega)
                  go_wp2_with fail
                  refine (rwhole_yes x n _ HWn.out).mono ?_
                  rintro e w' ⟨rfl, rfl⟩
                  go_wp2
                  go_roundw
                  case rel => exact ⟨k + 1, by omega, by go_num, by rw [HK.out]; rfl, by trivial, by rw [HK.out]; omega⟩
                  case measure => simp [intOf]; omega
                · have HK := Lib.hid (show leastW (l.take (k + 1)) = q by rw [HTK.out, kz2 (by omega) (by omega) (by omega) (by omega)]; omega)
                  go_wp2_with fail
                  refine (rwhole_yes x n _ HWn.out).mono ?_
                  rintro e w' ⟨rfl, rfl⟩
                  go_wp2
                  go_roundw
                  case rel => exact ⟨k + 1, by omega, by go_num, by rw [HK.out], by trivial, by rw [HK.out]; omega⟩
                  case measure => simp [intOf]; omega
              · omega
              · omega
            · have HK := Lib.hid (show leastW (l.take (k + 1)) = q by rw [HTK.out, kz1 (.inl g3)]; omega)
              clear o4
              go_wp2_with fail
              refine (rwhole_yes x n _ HWn.out).mono ?_
              rintro e w' ⟨rfl, rfl⟩
              go_wp2
              go_roundw
              case rel => exact ⟨k + 1, by omega, by go_num, by rw [HK.out], by trivial, by rw [HK.out]; omega⟩
              case measure => simp [intOf]; omega
            · rcases o4 with ⟨g4, o4⟩ | ⟨g4, o4⟩ | ⟨g4, o4⟩
              · omega
              · have HK := Lib.hid (show leastW (l.take (k + 1)) = q by rw [HTK.out, kz1 (.inr g4)]; omega)
                go_wp2_with fail
                refine (rwhole_yes x n _ HWn.out).mono ?_
                rintro e w' ⟨rfl, rfl⟩
                go_wp2
                go_roundw
                case rel => exact ⟨k + 1, by omega, by go_num, by rw [HK.out], by trivial, by rw [HK.out]; omega⟩
                case measure => simp [intOf]; omega
              · by_cases hq2 : q < 2
                · have HK := Lib.hid (show leastW (l.take (k + 1)) = 2 by rw [HTK.out, kz2 (by omega) (by omega) (by omega) (by omega)]; omega)
                  go_wp2_with fail
                  refine (rwhole_yes x n _ HWn.out).mono ?_
                  rintro e w' ⟨rfl, rfl⟩
                  go_wp2
                  go_roundw
                  case rel => exact ⟨k + 1, by omega, by go_num, by rw [HK.out]; rfl, by trivial, by rw [HK.out]; omega⟩
                  case measure => simp [intOf]; omega
                · have HK := Lib.hid (show leastW (l.take (k + 1)) = q by rw [HTK.out, kz2 (by omega) (by omega) (by omega) (by omega)]; omega)
                  go_wp2_with fail
                  refine (rwhole_yes x n _ HWn.out).mono ?_
                  rintro e w' ⟨rfl, rfl⟩
                  go_wp2
                  go_roundw
                  case rel => exact ⟨k + 1, by omega, by go_num, by rw [HK.out], by trivial, by rw [HK.out]; omega⟩
                  case measure => simp [intOf]; omega
          · have HK := Lib.hid (show leastW (l.take (k + 1)) = max q 2 by rw [HTK.out, kz2 (by omega) (by omega) (by omega) (by omega)])
            rcases o3 with ⟨g3, o3⟩ | ⟨g3, o3⟩ | ⟨g3, o3⟩
            · omega
            · omega
            · rcases o4 with ⟨g4, o4⟩ | ⟨g4, o4⟩ | ⟨g4, o4⟩
              · omega
              · omega
              · by_cases hq2 : q < 2
                · have HK2 := Lib.hid (show leastW (l.take (k + 1)) = 2 by rw [HK.out]; omega)
                  go_wp2_with fail
                  refine (rwhole_yes x n _ HWn.out).mono ?_
                  rintro e w' ⟨rfl, rfl⟩
                  go_wp2
                  go_roundw
                  case rel => exact ⟨k + 1, by omega, by go_num, by rw [HK2.out]; rfl, by trivial, by rw [HK2.out]; omega⟩
                  case measure => simp [intOf]; omega
                · have HK2 := Lib.hid (show leastW (l.take (k + 1)) = q by rw [HK.out]; omega)
                  go_wp2_with fail
                  refine (rwhole_yes x n _ HWn.out).mono ?_
                  rintro e w' ⟨rfl, rfl⟩
                  go_wp2
                  go_roundw
                  case rel => exact ⟨k + 1, by omega, by go_num, by rw [HK2.out], by trivial, by rw [HK2.out]; omega⟩
                  case measure => simp [intOf]; omega
          · have HK := Lib.hid (show leastW (l.take (k + 1)) = 3 by rw [HTK.out, kz3 (.inr g2)]; omega)
            rcases o3 with ⟨g3, o3⟩ | ⟨g3, o3⟩ | ⟨g3, o3⟩
            · omega
            · omega
            · rcases o4 with ⟨g4, o4⟩ | ⟨g4, o4⟩ | ⟨g4, o4⟩
              · omega
              · omega
              · go_wp2_with fail
                refine (rwhole_yes x n _ HWn.out).mono ?_
                rintro e w' ⟨rfl, rfl⟩
                go_wp2
                go_roundw
                case rel => exact ⟨k + 1, by omega, by go_num, by rw [HK.out]; rfl, by trivial, by rw [HK.out]; omega⟩
                case measure => simp [intOf]; omega
      · have HW0 := Lib.hid (show ∀ n, ¬ Wh x n from fun n hn => hw ⟨n, hn⟩)
        have H4 := Lib.hid (leastW_four (List.mem_of_getElem? HX.out) (kindW_no HW0.out))
        clear hw
        go_wp2_with fail
        refine (rwhole_no x _ HNx.out.1.1 HW0.out).mono ?_
        rintro e w' ⟨rfl, rfl⟩
        go_wp2
        go_ret
        exact ⟨ret_i (by rw [H4.out]; rfl), rfl⟩
    · have hkl : k = l.length := by omega
      have HE := Lib.hid (show leastW l = q by have := HQ.out; rw [hkl, List.take_length] at this; exact this.symm)
      clear hkl
      go_wp2
      go_ret
      exact ⟨ret_i (by rw [HE.out]), rfl⟩
theorem rfits_calls {ok : Nat → Prop} (v : Value) (l : List Nat) (kind : Int) (w : World) (hv : Slc w ok v l.length (f64s l)) (hm : l.length ≤ 9223372036854775807) (hN : ∀ x ∈ l, Num x) :
    Calls Tryd.prog 18 #[v, .int .i64 kind] w fun e w' => e = .returned (.bool (decide ((leastW l : Int) ≤ kind) && decide (kind ≤ 4))) ∧ w = w' := by
  have HV := Lib.hid hv
  have HNu := Lib.hid hN
  clear hv hN
  by_cases h1 : (leastW l : Int) ≤ kind
  · have hd : decide ((leastW l : Int) ≤ kind) = true := decide_eq_true h1
    have HD := Lib.hid hd
    by_cases h2 : kind ≤ 4
    · go_enter Tryd.func18, Tryd.ntmps18
      go_wp2_with fail
      refine (rleast_calls _ l _ HV.out hm HNu.out).mono ?_
      rintro e w1 ⟨rfl, rfl⟩
      go_wp2
      go_ret
      exact ⟨ret_b (by rw [HD.out, decide_eq_true h2]; rfl), rfl⟩
    · go_enter Tryd.func18, Tryd.ntmps18
      go_wp2_with fail
      refine (rleast_calls _ l _ HV.out hm HNu.out).mono ?_
      rintro e w1 ⟨rfl, rfl⟩
      go_wp2
      go_ret
      exact ⟨ret_b (by rw [HD.out, Bool.true_and]), rfl⟩
  · have hd : decide ((leastW l : Int) ≤ kind) = false := decide_eq_false h1
    have HD := Lib.hid hd
    go_enter Tryd.func18, Tryd.ntmps18
    go_wp2_with fail
    refine (rleast_calls _ l _ HV.out hm HNu.out).mono ?_
    rintro e w1 ⟨rfl, rfl⟩
    go_wp2
    go_ret
    exact ⟨ret_b (by rw [HD.out]; rfl), rfl⟩
end Go.Proofs.YtnicoddkbcfijaaDoor

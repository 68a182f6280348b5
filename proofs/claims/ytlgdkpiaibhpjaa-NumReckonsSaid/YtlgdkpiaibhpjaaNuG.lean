/- Layer 3's laws, walked: NumReckons, NumRests, NumPowers. Written by a program of mine. -/
import Derived.Test.YtlgdkpiaibhpjaaNuF
namespace Go.Proofs.Ytlgdkpiaibhpjaa
open Go.RowKit Fl
set_option linter.unusedVariables false
theorem self_eq (i : Int) : (i == i) = true := by simp
theorem self_ne (i : Int) : (i != i) = false := by simp
set_option maxHeartbeats 2000000 in
theorem reckons_law (a b : Nat) (w : World) (ha : a < 18446744073709551616) (hb : b < 18446744073709551616) : Calls Try.prog 5 #[.float .f64 a, .float .f64 b] w (Drew w) := by
  have HA := Lib.hid ha
  have HB := Lib.hid hb
  clear ha hb
  by_cases fa : Fnt a
  · have FA := Lib.hid fa
    by_cases fb : Fnt b
    · have FB := Lib.hid fb
      have nx := ze_num fa
      have ny := ze_num fb
      obtain ⟨x, hx⟩ : ∃ x, ze a = x := ⟨_, rfl⟩
      obtain ⟨y, hy⟩ : ∃ y, ze b = y := ⟨_, rfl⟩
      rw [hx] at nx
      rw [hy] at ny
      have X := Lib.hid hx
      have Y := Lib.hid hy
      have NX := Lib.hid nx
      have NY := Lib.hid ny
      obtain ⟨s, hs⟩ : ∃ s, Ieee.double.add x y = some s := ⟨_, add_fin nx.1 ny.1⟩
      obtain ⟨d, hd⟩ : ∃ d, Ieee.double.sub x y = some d := ⟨_, sub_fin nx.1 ny.1⟩
      obtain ⟨p, hp⟩ : ∃ p, Ieee.double.mul x y = some p := ⟨_, mul_fin nx.1 ny.1⟩
      have S1 : Hid (floatBits .add .f64 x y = some s) := Lib.hid hs
      have D1 : Hid (floatBits .sub .f64 x y = some d) := Lib.hid hd
      have P1 : Hid (floatBits .mul .f64 x y = some p) := Lib.hid hp
      have SL := Lib.hid (bits_lt S1.out)
      have DL := Lib.hid (bits_lt D1.out)
      have PL := Lib.hid (bits_lt P1.out)
      have e1 := self_eq (rs s).2
      have e2 := self_eq (rs d).2
      have e3 := self_eq (rs p).2
      by_cases y0 : V y = 0
      · have hy0 : y = 0 := ny.2 (V_eq_zero.1 y0)
        subst hy0
        by_cases x0 : V x = 0
        · have hx0 : x = 0 := nx.2 (V_eq_zero.1 x0)
          subst hx0
          have ON := Lib.hid (show Num 4607182418800017408 from ⟨one_fin, fun h => absurd h (by decide)⟩)
          clear fa fb nx ny hs hd hp hx hy y0 x0
          go_enter Try.func5, Try.ntmps5
          go_wp2_with (first | ((with_reducible refine (rtidy_fin _ _ FA.out).mono ?_); rintro e w' ⟨rfl, rfl⟩; rw [X.out]) | ((with_reducible refine (rtidy_fin _ _ FB.out).mono ?_); rintro e w' ⟨rfl, rfl⟩; rw [Y.out]) | ((with_reducible refine (add_calls _ _ _ _ S1.out).mono ?_); rintro e w' ⟨rfl, rfl⟩) | ((with_reducible refine (reckon_add _ _ _ _ S1.out).mono ?_); rintro e w' ⟨rfl, rfl⟩) | ((with_reducible refine (sub_calls _ _ _ _ D1.out).mono ?_); rintro e w' ⟨rfl, rfl⟩) | ((with_reducible refine (reckon_sub _ _ _ _ D1.out).mono ?_); rintro e w' ⟨rfl, rfl⟩) | ((with_reducible refine (mul_calls _ _ _ _ P1.out).mono ?_); rintro e w' ⟨rfl, rfl⟩) | ((with_reducible refine (reckon_mul _ _ _ _ P1.out).mono ?_); rintro e w' ⟨rfl, rfl⟩) | ((with_reducible refine (bits_rs _ _ SL.out).mono ?_); rintro e w' ⟨rfl, rfl⟩) | ((with_reducible refine (bits_rs _ _ DL.out).mono ?_); rintro e w' ⟨rfl, rfl⟩) | ((with_reducible refine (bits_rs _ _ PL.out).mono ?_); rintro e w' ⟨rfl, rfl⟩) | ((with_reducible refine (div_none _).mono ?_); rintro e w' ⟨rfl, rfl⟩) | ((with_reducible refine (reckon_none _).mono ?_); rintro e w' ⟨rfl, rfl⟩) | ((with_reducible refine (bits_same _ _ ON.out).mono ?_); rintro e w' ⟨rfl, rfl⟩) | ((with_reducible refine (awake_calls _).mono ?_); rintro e w' ⟨rfl, m, rfl⟩))
          go_ret
          exact ⟨rfl, _, rfl⟩
        · have X0 := Lib.hid x0
          have ON := Lib.hid num_zero
          have FX := Lib.hid nx.1
          clear fa fb nx ny hs hd hp hx hy y0 x0
          go_enter Try.func5, Try.ntmps5
          go_wp2_with (first | ((with_reducible refine (rtidy_fin _ _ FA.out).mono ?_); rintro e w' ⟨rfl, rfl⟩; rw [X.out]) | ((with_reducible refine (rtidy_fin _ _ FB.out).mono ?_); rintro e w' ⟨rfl, rfl⟩; rw [Y.out]) | ((with_reducible refine (add_calls _ _ _ _ S1.out).mono ?_); rintro e w' ⟨rfl, rfl⟩) | ((with_reducible refine (reckon_add _ _ _ _ S1.out).mono ?_); rintro e w' ⟨rfl, rfl⟩) | ((with_reducible refine (sub_calls _ _ _ _ D1.out).mono ?_); rintro e w' ⟨rfl, rfl⟩) | ((with_reducible refine (reckon_sub _ _ _ _ D1.out).mono ?_); rintro e w' ⟨rfl, rfl⟩) | ((with_reducible refine (mul_calls _ _ _ _ P1.out).mono ?_); rintro e w' ⟨rfl, rfl⟩) | ((with_reducible refine (reckon_mul _ _ _ _ P1.out).mono ?_); rintro e w' ⟨rfl, rfl⟩) | ((with_reducible refine (bits_rs _ _ SL.out).mono ?_); rintro e w' ⟨rfl, rfl⟩) | ((with_reducible refine (bits_rs _ _ DL.out).mono ?_); rintro e w' ⟨rfl, rfl⟩) | ((with_reducible refine (bits_rs _ _ PL.out).mono ?_); rintro e w' ⟨rfl, rfl⟩) | ((with_reducible refine (div_zero _ _ FX.out X0.out).mono ?_); rintro e w' ⟨rfl, rfl⟩) | ((with_reducible refine (reckon_zero _ _ FX.out X0.out).mono ?_); rintro e w' ⟨rfl, rfl⟩) | ((with_reducible refine (bits_same _ _ ON.out).mono ?_); rintro e w' ⟨rfl, rfl⟩) | ((with_reducible refine (awake_calls _).mono ?_); rintro e w' ⟨rfl, m, rfl⟩))
          go_ret
          exact ⟨rfl, _, rfl⟩
      · obtain ⟨q, hq⟩ := div_some nx.1 ny.1 y0
        have Q1 : Hid (floatBits .quo .f64 x y = some q) := Lib.hid hq
        have QL := Lib.hid (bits_lt Q1.out)
        have Y0 := Lib.hid y0
        have FX := Lib.hid nx.1
        have FY := Lib.hid ny.1
        have e4 := self_eq (rs q).2
        clear fa fb nx ny hs hd hp hx hy hq y0
        go_enter Try.func5, Try.ntmps5
        go_wp2_with (first | ((with_reducible refine (rtidy_fin _ _ FA.out).mono ?_); rintro e w' ⟨rfl, rfl⟩; rw [X.out]) | ((with_reducible refine (rtidy_fin _ _ FB.out).mono ?_); rintro e w' ⟨rfl, rfl⟩; rw [Y.out]) | ((with_reducible refine (add_calls _ _ _ _ S1.out).mono ?_); rintro e w' ⟨rfl, rfl⟩) | ((with_reducible refine (reckon_add _ _ _ _ S1.out).mono ?_); rintro e w' ⟨rfl, rfl⟩) | ((with_reducible refine (sub_calls _ _ _ _ D1.out).mono ?_); rintro e w' ⟨rfl, rfl⟩) | ((with_reducible refine (reckon_sub _ _ _ _ D1.out).mono ?_); rintro e w' ⟨rfl, rfl⟩) | ((with_reducible refine (mul_calls _ _ _ _ P1.out).mono ?_); rintro e w' ⟨rfl, rfl⟩) | ((with_reducible refine (reckon_mul _ _ _ _ P1.out).mono ?_); rintro e w' ⟨rfl, rfl⟩) | ((with_reducible refine (bits_rs _ _ SL.out).mono ?_); rintro e w' ⟨rfl, rfl⟩) | ((with_reducible refine (bits_rs _ _ DL.out).mono ?_); rintro e w' ⟨rfl, rfl⟩) | ((with_reducible refine (bits_rs _ _ PL.out).mono ?_); rintro e w' ⟨rfl, rfl⟩) | ((with_reducible refine (div_calls _ _ _ _ FY.out Y0.out Q1.out).mono ?_); rintro e w' ⟨rfl, rfl⟩) | ((with_reducible refine (reckon_quo _ _ _ _ FX.out FY.out Y0.out Q1.out).mono ?_); rintro e w' ⟨rfl, rfl⟩) | ((with_reducible refine (bits_rs _ _ QL.out).mono ?_); rintro e w' ⟨rfl, rfl⟩) | ((with_reducible refine (awake_calls _).mono ?_); rintro e w' ⟨rfl, m, rfl⟩))
        go_ret
        exact ⟨rfl, _, rfl⟩
    · have FB := Lib.hid fb
      clear fa fb
      go_enter Try.func5, Try.ntmps5
      go_wp2_with (first | ((with_reducible refine (rtidy_fin _ _ FA.out).mono ?_); rintro e w' ⟨rfl, rfl⟩) | ((with_reducible refine (rtidy_non _ _ HB.out FB.out).mono ?_); rintro e w' ⟨rfl, rfl⟩) | ((with_reducible refine (awake_calls _).mono ?_); rintro e w' ⟨rfl, m, rfl⟩))
      go_ret
      exact ⟨rfl, _, rfl⟩
  · have FA := Lib.hid fa
    by_cases fb : Fnt b
    · have FB := Lib.hid fb
      clear fa fb
      go_enter Try.func5, Try.ntmps5
      go_wp2_with (first | ((with_reducible refine (rtidy_non _ _ HA.out FA.out).mono ?_); rintro e w' ⟨rfl, rfl⟩) | ((with_reducible refine (rtidy_fin _ _ FB.out).mono ?_); rintro e w' ⟨rfl, rfl⟩) | ((with_reducible refine (awake_calls _).mono ?_); rintro e w' ⟨rfl, m, rfl⟩))
      go_ret
      exact ⟨rfl, _, rfl⟩
    · have FB := Lib.hid fb
      clear fa fb
      go_enter Try.func5, Try.ntmps5
      go_wp2_with (first | ((with_reducible refine (rtidy_non _ _ HA.out FA.out).mono ?_); rintro e w' ⟨rfl, rfl⟩) | ((with_reducible refine (rtidy_non _ _ HB.out FB.out).mono ?_); rintro e w' ⟨rfl, rfl⟩) | ((with_reducible refine (awake_calls _).mono ?_); rintro e w' ⟨rfl, m, rfl⟩))
      go_ret
      exact ⟨rfl, _, rfl⟩
theorem pwr_num (a : Nat) (n : Int) (h : ∀ z, tms 10 n.natAbs (some 4607182418800017408) (some a) = some z → z < 18446744073709551616) : Num (pwr a n).1 := by
  unfold pwr
  split
  · exact num_zero
  · rename_i z hz
    split
    · exact rs_num z (h z hz)
    · split
      · rename_i h0
        obtain ⟨y, hy⟩ := div_some one_fin ⟨h z hz, h0.1⟩ h0.2
        rw [hy, Option.getD_some]
        exact rs_num y (bits_lt (op := .quo) hy)
      · exact num_zero
theorem tms_lt : ∀ (n k : Nat) (o x : Option Nat), (∀ z, o = some z → z < 18446744073709551616) → ∀ z, tms n k o x = some z → z < 18446744073709551616
  | 0, _, _, _, h, z, e => h z e
  | n + 1, k, o, x, h, z, e => by
    rw [tms] at e
    split at e
    · exact h z e
    · refine tms_lt n _ _ _ ?_ z e
      intro y hy
      split at hy
      · unfold fm at hy
        cases o with
        | none => cases hy
        | some a =>
          cases x with
          | none => cases hy
          | some b => exact bits_lt (op := .mul) hy
      · exact h y hy
theorem pwr_num' (a : Nat) (n : Int) : Num (pwr a n).1 := pwr_num a n fun z => tms_lt _ _ _ _ (fun z e => by cases e; decide) z
set_option maxHeartbeats 2000000 in
theorem powers_law (a b : Nat) (w : World) (ha : a < 18446744073709551616) (hb : b < 18446744073709551616) : Calls Try.prog 8 #[.float .f64 a, .float .f64 b] w (Drew w) := by
  have HA := Lib.hid ha
  have HB := Lib.hid hb
  clear ha hb
  by_cases fa : Fnt a
  · have FA := Lib.hid fa
    by_cases fb : Fnt b
    · have FB := Lib.hid fb
      have nx := ze_num fa
      have ny := ze_num fb
      obtain ⟨x, hx⟩ : ∃ x, ze a = x := ⟨_, rfl⟩
      obtain ⟨y, hy⟩ : ∃ y, ze b = y := ⟨_, rfl⟩
      rw [hx] at nx
      rw [hy] at ny
      have X := Lib.hid hx
      have Y := Lib.hid hy
      have NX := Lib.hid nx
      have NY := Lib.hid ny
      by_cases hw : ∃ n, Wh y n
      · obtain ⟨n, hn⟩ := hw
        have HN := Lib.hid hn
        have XL := Lib.hid nx.1.1
        by_cases hm : 1023 < n.natAbs
        · have HM := Lib.hid hm
          have NZ := Lib.hid num_zero
          clear hn hm nx ny hx hy fa fb
          go_enter Try.func8, Try.ntmps8
          go_wp2_with (first | ((with_reducible refine (rtidy_fin _ _ FA.out).mono ?_); rintro e w' ⟨rfl, rfl⟩; rw [X.out]) | ((with_reducible refine (rtidy_fin _ _ FB.out).mono ?_); rintro e w' ⟨rfl, rfl⟩; rw [Y.out]) | ((with_reducible refine (power_much _ _ _ _ HN.out HM.out).mono ?_); rintro e w' ⟨rfl, m, rfl⟩) | ((with_reducible refine (rpower_much _ _ _ _ HN.out HM.out).mono ?_); rintro e w' ⟨rfl, m, rfl⟩) | ((with_reducible refine (bits_same _ _ NZ.out).mono ?_); rintro e w' ⟨rfl, rfl⟩) | ((with_reducible refine (awake_calls _).mono ?_); rintro e w' ⟨rfl, m, rfl⟩))
          go_ret
          exact ⟨rfl, _, rfl⟩
        · have HM : Hid (n.natAbs ≤ 1023) := Lib.hid (by omega)
          have NZ := Lib.hid (pwr_num' x n)
          have e1 := self_eq (pwr x n).2
          clear hn hm nx ny hx hy fa fb
          go_enter Try.func8, Try.ntmps8
          go_wp2_with (first | ((with_reducible refine (rtidy_fin _ _ FA.out).mono ?_); rintro e w' ⟨rfl, rfl⟩; rw [X.out]) | ((with_reducible refine (rtidy_fin _ _ FB.out).mono ?_); rintro e w' ⟨rfl, rfl⟩; rw [Y.out]) | ((with_reducible refine (power_calls _ _ _ _ XL.out HN.out HM.out).mono ?_); rintro e w' ⟨rfl, m, rfl⟩) | ((with_reducible refine (rpower_calls _ _ _ _ XL.out HN.out HM.out).mono ?_); rintro e w' ⟨rfl, m, rfl⟩) | ((with_reducible refine (bits_same _ _ NZ.out).mono ?_); rintro e w' ⟨rfl, rfl⟩) | ((with_reducible refine (awake_calls _).mono ?_); rintro e w' ⟨rfl, m, rfl⟩))
          go_ret
          exact ⟨rfl, _, rfl⟩
      · have HN : Hid (∀ n, ¬ Wh y n) := Lib.hid (fun n hn => hw (Exists.intro n hn))
        have YL := Lib.hid ny.1.1
        have NZ := Lib.hid num_zero
        clear hw nx ny hx hy fa fb
        go_enter Try.func8, Try.ntmps8
        go_wp2_with (first | ((with_reducible refine (rtidy_fin _ _ FA.out).mono ?_); rintro e w' ⟨rfl, rfl⟩; rw [X.out]) | ((with_reducible refine (rtidy_fin _ _ FB.out).mono ?_); rintro e w' ⟨rfl, rfl⟩; rw [Y.out]) | ((with_reducible refine (power_no _ _ _ YL.out HN.out).mono ?_); rintro e w' ⟨rfl, m, rfl⟩) | ((with_reducible refine (rpower_no _ _ _ YL.out HN.out).mono ?_); rintro e w' ⟨rfl, m, rfl⟩) | ((with_reducible refine (bits_same _ _ NZ.out).mono ?_); rintro e w' ⟨rfl, rfl⟩) | ((with_reducible refine (awake_calls _).mono ?_); rintro e w' ⟨rfl, m, rfl⟩))
        go_ret
        exact ⟨rfl, _, rfl⟩
    · have FB := Lib.hid fb
      clear fa fb
      go_enter Try.func8, Try.ntmps8
      go_wp2_with (first | ((with_reducible refine (rtidy_fin _ _ FA.out).mono ?_); rintro e w' ⟨rfl, rfl⟩) | ((with_reducible refine (rtidy_non _ _ HB.out FB.out).mono ?_); rintro e w' ⟨rfl, rfl⟩) | ((with_reducible refine (awake_calls _).mono ?_); rintro e w' ⟨rfl, m, rfl⟩))
      go_ret
      exact ⟨rfl, _, rfl⟩
  · have FA := Lib.hid fa
    by_cases fb : Fnt b
    · have FB := Lib.hid fb
      clear fa fb
      go_enter Try.func8, Try.ntmps8
      go_wp2_with (first | ((with_reducible refine (rtidy_non _ _ HA.out FA.out).mono ?_); rintro e w' ⟨rfl, rfl⟩) | ((with_reducible refine (rtidy_fin _ _ FB.out).mono ?_); rintro e w' ⟨rfl, rfl⟩) | ((with_reducible refine (awake_calls _).mono ?_); rintro e w' ⟨rfl, m, rfl⟩))
      go_ret
      exact ⟨rfl, _, rfl⟩
    · have FB := Lib.hid fb
      clear fa fb
      go_enter Try.func8, Try.ntmps8
      go_wp2_with (first | ((with_reducible refine (rtidy_non _ _ HA.out FA.out).mono ?_); rintro e w' ⟨rfl, rfl⟩) | ((with_reducible refine (rtidy_non _ _ HB.out FB.out).mono ?_); rintro e w' ⟨rfl, rfl⟩) | ((with_reducible refine (awake_calls _).mono ?_); rintro e w' ⟨rfl, m, rfl⟩))
      go_ret
      exact ⟨rfl, _, rfl⟩
theorem rst_small {m n : Int} (h1 : m.natAbs ≤ 9007199254740992) (h2 : n.natAbs ≤ 9007199254740992) : (rst m n).natAbs ≤ 9007199254740992 := by
  unfold rst
  split
  · exact h2
  · rename_i h0
    have := tmod_bounds (b := n) h0
    split <;> omega
set_option maxHeartbeats 2000000 in
theorem rests_law (a b : Nat) (m n : Int) (w : World) (ha : a < 18446744073709551616) (hb : b < 18446744073709551616) (hm : (Lit.int .i64 m).wf = true) (hn : (Lit.int .i64 n).wf = true) : Calls Try.prog 7 #[.float .f64 a, .float .f64 b, .int .i64 m, .int .i64 n] w (Drew w) := by
  have HA := Lib.hid ha
  have HB := Lib.hid hb
  clear ha hb
  have M := Lib.hid hm
  have N := Lib.hid hn
  have e0 := self_ne (rst m n)
  clear hm hn
  by_cases fa : Fnt a
  · have FA := Lib.hid fa
    by_cases fb : Fnt b
    · have FB := Lib.hid fb
      have nx := ze_num fa
      have ny := ze_num fb
      obtain ⟨x, hx⟩ : ∃ x, ze a = x := ⟨_, rfl⟩
      obtain ⟨y, hy⟩ : ∃ y, ze b = y := ⟨_, rfl⟩
      rw [hx] at nx
      rw [hy] at ny
      have X := Lib.hid hx
      have Y := Lib.hid hy
      have NX := Lib.hid nx
      have NY := Lib.hid ny
      by_cases wx : ∃ n, Wh x n
      · obtain ⟨i, hi⟩ := wx
        have WX := Lib.hid hi
        by_cases wy : ∃ n, Wh y n
        · obtain ⟨j, hj⟩ := wy
          have WY := Lib.hid hj
          have hc1 : ∀ w, (convert 22 2 (.float .f64 x)).run Try.prog w = .ok (.int .i64 i) w := fun w => run_convert_float_int w 22 2 .f64 .i64 x i (by kernel_rfl) (by kernel_rfl) (wh_int x i hi)
          have hc2 : ∀ w, (convert 22 2 (.float .f64 y)).run Try.prog w = .ok (.int .i64 j) w := fun w => run_convert_float_int w 22 2 .f64 .i64 y j (by kernel_rfl) (by kernel_rfl) (wh_int y j hj)
          have hc3 : ∀ w, (convert 2 22 (.int .i64 (rst i j))).run Try.prog w = .ok (.float .f64 (floatOfInt .f64 (rst i j))) w := fun w => run_convert_int_float w 2 22 .i64 .f64 _ (by kernel_rfl) (by kernel_rfl)
          have hf := ofInt_fin (rst i j) (by have := rst_small hi.2.1 hj.2.1; omega)
          have ho : FloatKind.f64.format.order (floatOfInt .f64 (rst i j)) (floatOfInt .f64 (rst i j)) = some .eq := ord_eq hf hf rfl
          have WI := Lib.hid (wh_wf hi)
          have WJ := Lib.hid (wh_wf hj)
          clear hi hj hf nx ny hx hy fa fb
          go_enter Try.func7, Try.ntmps7
          go_wp2_with (first | ((with_reducible refine (restint_calls _ _ _ M.out N.out).mono ?_); rintro e w' ⟨rfl, rfl⟩) | ((with_reducible refine (rrest_calls _ _ _ M.out N.out).mono ?_); rintro e w' ⟨rfl, rfl⟩) | ((with_reducible refine (rtidy_fin _ _ FA.out).mono ?_); rintro e w' ⟨rfl, rfl⟩; rw [X.out]) | ((with_reducible refine (rtidy_fin _ _ FB.out).mono ?_); rintro e w' ⟨rfl, rfl⟩; rw [Y.out]) | ((with_reducible refine (rest_yes _ _ _ _ _ WX.out WY.out).mono ?_); rintro e w' ⟨rfl, rfl⟩) | ((with_reducible refine (rwhole_yes _ _ _ WX.out).mono ?_); rintro e w' ⟨rfl, rfl⟩) | ((with_reducible refine (rwhole_yes _ _ _ WY.out).mono ?_); rintro e w' ⟨rfl, rfl⟩) | ((with_reducible refine (rrest_calls _ _ _ WI.out WJ.out).mono ?_); rintro e w' ⟨rfl, rfl⟩) | ((with_reducible refine (awake_calls _).mono ?_); rintro e w' ⟨rfl, m, rfl⟩))
          go_ret
          exact ⟨rfl, _, rfl⟩
        · have WY : Hid (∀ n, ¬ Wh y n) := Lib.hid (fun n hn => wy (Exists.intro n hn))
          have YL := Lib.hid ny.1.1
          have o0 : FloatKind.f64.format.order 0 0 = some .eq := by decide
          clear hi wy nx ny hx hy fa fb
          go_enter Try.func7, Try.ntmps7
          go_wp2_with (first | ((with_reducible refine (restint_calls _ _ _ M.out N.out).mono ?_); rintro e w' ⟨rfl, rfl⟩) | ((with_reducible refine (rrest_calls _ _ _ M.out N.out).mono ?_); rintro e w' ⟨rfl, rfl⟩) | ((with_reducible refine (rtidy_fin _ _ FA.out).mono ?_); rintro e w' ⟨rfl, rfl⟩; rw [X.out]) | ((with_reducible refine (rtidy_fin _ _ FB.out).mono ?_); rintro e w' ⟨rfl, rfl⟩; rw [Y.out]) | ((with_reducible refine (rest_no2 _ _ _ _ WX.out YL.out WY.out).mono ?_); rintro e w' ⟨rfl, rfl⟩) | ((with_reducible refine (rwhole_yes _ _ _ WX.out).mono ?_); rintro e w' ⟨rfl, rfl⟩) | ((with_reducible refine (rwhole_no _ _ YL.out WY.out).mono ?_); rintro e w' ⟨rfl, rfl⟩) | ((with_reducible refine (awake_calls _).mono ?_); rintro e w' ⟨rfl, m, rfl⟩))
          go_ret
          exact ⟨rfl, _, rfl⟩
      · have WX : Hid (∀ n, ¬ Wh x n) := Lib.hid (fun n hn => wx (Exists.intro n hn))
        have XL := Lib.hid nx.1.1
        have YL := Lib.hid ny.1.1
        have o0 : FloatKind.f64.format.order 0 0 = some .eq := by decide
        clear wx nx ny hx hy fa fb
        go_enter Try.func7, Try.ntmps7
        go_wp2_with (first | ((with_reducible refine (restint_calls _ _ _ M.out N.out).mono ?_); rintro e w' ⟨rfl, rfl⟩) | ((with_reducible refine (rrest_calls _ _ _ M.out N.out).mono ?_); rintro e w' ⟨rfl, rfl⟩) | ((with_reducible refine (rtidy_fin _ _ FA.out).mono ?_); rintro e w' ⟨rfl, rfl⟩; rw [X.out]) | ((with_reducible refine (rtidy_fin _ _ FB.out).mono ?_); rintro e w' ⟨rfl, rfl⟩; rw [Y.out]) | ((with_reducible refine (rest_no1 _ _ _ XL.out WX.out YL.out).mono ?_); rintro e w' ⟨rfl, rfl⟩) | ((with_reducible refine (rwhole_no _ _ XL.out WX.out).mono ?_); rintro e w' ⟨rfl, rfl⟩) | ((with_reducible refine (awake_calls _).mono ?_); rintro e w' ⟨rfl, m, rfl⟩))
        go_ret
        exact ⟨rfl, _, rfl⟩
    · have FB := Lib.hid fb
      clear fa fb
      go_enter Try.func7, Try.ntmps7
      go_wp2_with (first | ((with_reducible refine (restint_calls _ _ _ M.out N.out).mono ?_); rintro e w' ⟨rfl, rfl⟩) | ((with_reducible refine (rrest_calls _ _ _ M.out N.out).mono ?_); rintro e w' ⟨rfl, rfl⟩) | ((with_reducible refine (rtidy_fin _ _ FA.out).mono ?_); rintro e w' ⟨rfl, rfl⟩) | ((with_reducible refine (rtidy_non _ _ HB.out FB.out).mono ?_); rintro e w' ⟨rfl, rfl⟩) | ((with_reducible refine (awake_calls _).mono ?_); rintro e w' ⟨rfl, m, rfl⟩))
      go_ret
      exact ⟨rfl, _, rfl⟩
  · have FA := Lib.hid fa
    by_cases fb : Fnt b
    · have FB := Lib.hid fb
      clear fa fb
      go_enter Try.func7, Try.ntmps7
      go_wp2_with (first | ((with_reducible refine (restint_calls _ _ _ M.out N.out).mono ?_); rintro e w' ⟨rfl, rfl⟩) | ((with_reducible refine (rrest_calls _ _ _ M.out N.out).mono ?_); rintro e w' ⟨rfl, rfl⟩) | ((with_reducible refine (rtidy_non _ _ HA.out FA.out).mono ?_); rintro e w' ⟨rfl, rfl⟩) | ((with_reducible refine (rtidy_fin _ _ FB.out).mono ?_); rintro e w' ⟨rfl, rfl⟩) | ((with_reducible refine (awake_calls _).mono ?_); rintro e w' ⟨rfl, m, rfl⟩))
      go_ret
      exact ⟨rfl, _, rfl⟩
    · have FB := Lib.hid fb
      clear fa fb
      go_enter Try.func7, Try.ntmps7
      go_wp2_with (first | ((with_reducible refine (restint_calls _ _ _ M.out N.out).mono ?_); rintro e w' ⟨rfl, rfl⟩) | ((with_reducible refine (rrest_calls _ _ _ M.out N.out).mono ?_); rintro e w' ⟨rfl, rfl⟩) | ((with_reducible refine (rtidy_non _ _ HA.out FA.out).mono ?_); rintro e w' ⟨rfl, rfl⟩) | ((with_reducible refine (rtidy_non _ _ HB.out FB.out).mono ?_); rintro e w' ⟨rfl, rfl⟩) | ((with_reducible refine (awake_calls _).mono ?_); rintro e w' ⟨rfl, m, rfl⟩))
      go_ret
      exact ⟨rfl, _, rfl⟩
theorem reckons_frame (w : World) (a : Nat) (ha : (Lit.float .f64 a).wf = true) (b : Nat) (hb : (Lit.float .f64 b).wf = true) : Calls Try.prog 5 #[.float .f64 a, .float .f64 b] w fun e w' => e = .returned (.bool true) ∧ Below w.heap.size w w' := (reckons_law a b w (wf_f64 ha) (wf_f64 hb)).mono fun _ _ h => frame_of h
theorem powers_frame (w : World) (a : Nat) (ha : (Lit.float .f64 a).wf = true) (b : Nat) (hb : (Lit.float .f64 b).wf = true) : Calls Try.prog 8 #[.float .f64 a, .float .f64 b] w fun e w' => e = .returned (.bool true) ∧ Below w.heap.size w w' := (powers_law a b w (wf_f64 ha) (wf_f64 hb)).mono fun _ _ h => frame_of h
theorem rests_frame (w : World) (a : Nat) (ha : (Lit.float .f64 a).wf = true) (b : Nat) (hb : (Lit.float .f64 b).wf = true) (m : Int) (hm : (Lit.int .i64 m).wf = true) (n : Int) (hn : (Lit.int .i64 n).wf = true) : Calls Try.prog 7 #[.float .f64 a, .float .f64 b, .int .i64 m, .int .i64 n] w fun e w' => e = .returned (.bool true) ∧ Below w.heap.size w w' := (rests_law a b m n w (wf_f64 ha) (wf_f64 hb) hm hn).mono fun _ _ h => frame_of h
end Go.Proofs.Ytlgdkpiaibhpjaa

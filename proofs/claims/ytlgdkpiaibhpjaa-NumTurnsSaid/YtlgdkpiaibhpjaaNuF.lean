/- Layer 3's laws, walked: NumTidy, NumReckons, NumTurns, NumRests, NumPowers. -/
import Derived.Test.YtlgdkpiaibhpjaaNuE
namespace Go.Proofs.Ytlgdkpiaibhpjaa
open Go.RowKit Fl
set_option linter.unusedVariables false
theorem wh_of (n : Int) (h : n.natAbs ≤ 9007199254740992) : Wh (floatOfInt .f64 n) n := ⟨ofInt_fin n (by omega), h, ofInt_val n h⟩
theorem wh_n {x : Nat} (n : Int) (h : n.natAbs ≤ 9007199254740992) (e : floatOfInt .f64 n = x) : Wh x n := e ▸ wh_of n h
def Drew (w : World) (e : Ending) (w' : World) : Prop := e = .returned (.bool true) ∧ ∃ m, w' = w.drewN m
theorem rest1 (w : World) : Calls Try.prog 38 #[.float .f64 4613937818241073152, .float .f64 13830554455654793216] w fun e w' => e = .returned (.tuple #[.float .f64 4611686018427387904, .int .i64 0]) ∧ w = w' := by
  have h := rest_yes 4613937818241073152 13830554455654793216 3 (-1) w (wh_n 3 (by decide) (by kernel_rfl)) (wh_n (-1) (by decide) (by kernel_rfl))
  rw [show floatOfInt .f64 (rst 3 (-1)) = 4611686018427387904 by kernel_rfl] at h
  exact h
theorem rest2 (w : World) : Calls Try.prog 38 #[.float .f64 13837309855095848960, .float .f64 4607182418800017408] w fun e w' => e = .returned (.tuple #[.float .f64 13835058055282163712, .int .i64 0]) ∧ w = w' := by
  have h := rest_yes 13837309855095848960 4607182418800017408 (-3) 1 w (wh_n (-3) (by decide) (by kernel_rfl)) (wh_n 1 (by decide) (by kernel_rfl))
  rw [show floatOfInt .f64 (rst (-3) 1) = 13835058055282163712 by kernel_rfl] at h
  exact h
theorem power1 (w : World) : Calls Try.prog 39 #[.float .f64 4611686018427387904, .float .f64 13830554455654793216] w (Pwd (4602678819172646912, 0) w) := by
  have h := power_calls 4611686018427387904 13830554455654793216 (-1) w (by decide) (wh_n (-1) (by decide) (by kernel_rfl)) (by decide)
  rw [show pwr 4611686018427387904 (-1) = (4602678819172646912, 0) by kernel_rfl] at h
  exact h
theorem div1 (w : World) : Calls Try.prog 24 #[.float .f64 0, .float .f64 0] w fun e w' => e = .returned (.tuple #[.float .f64 4607182418800017408, .int .i64 0]) ∧ w = w' := div_none w
theorem awake_calls (w : World) : Calls Try.prog 15 #[] w (Drew w) := by
  have o1 : FloatKind.f64.format.order 4611686018427387904 4611686018427387904 = some .eq := by kernel_rfl
  have o2 : FloatKind.f64.format.order 13835058055282163712 13835058055282163712 = some .eq := by kernel_rfl
  have o3 : FloatKind.f64.format.order 4602678819172646912 4602678819172646912 = some .eq := by kernel_rfl
  have o4 : FloatKind.f64.format.order 4607182418800017408 4607182418800017408 = some .eq := by kernel_rfl
  go_enter Try.func15, Try.ntmps15
  go_wp2_with (first | ((with_reducible refine (rest1 _).mono ?_); rintro e w' ⟨rfl, rfl⟩) | ((with_reducible refine (rest2 _).mono ?_); rintro e w' ⟨rfl, rfl⟩) | ((with_reducible refine (power1 _).mono ?_); rintro e w' ⟨rfl, m, rfl⟩) | ((with_reducible refine (div1 _).mono ?_); rintro e w' ⟨rfl, rfl⟩))
  go_ret
  exact ⟨rfl, _, rfl⟩
theorem rwhole_yes (x : Nat) (n : Int) (w : World) (h : Wh x n) : Calls Try.prog 14 #[.float .f64 x] w fun e w' => e = .returned (.bool true) ∧ w = w' := rwhole_calls x w h.1.1 true (Iff.intro (fun _ => Exists.intro n h) (fun _ => rfl))
theorem rwhole_no (x : Nat) (w : World) (hx : x < 18446744073709551616) (h : ∀ n, ¬ Wh x n) : Calls Try.prog 14 #[.float .f64 x] w fun e w' => e = .returned (.bool false) ∧ w = w' := rwhole_calls x w hx false (Iff.intro (fun e => by cases e) (fun e => by obtain ⟨n, e⟩ := e; exact absurd e (h n)))
theorem num_zero : Num 0 := ⟨fin_zero, fun _ => rfl⟩
theorem tidy_law (x : Nat) (w : World) (hx : x < 18446744073709551616) : Calls Try.prog 3 #[.float .f64 x] w (Drew w) := by
  have HX := Lib.hid hx
  by_cases hf : Fnt x
  · have HF := Lib.hid hf
    have HZ := Lib.hid (ze_num hf)
    by_cases hw : ∃ n, Wh x n
    · have HB : Hid (true = true ↔ ∃ n, Wh x n) := Lib.hid (Iff.intro (fun _ => hw) (fun _ => rfl))
      obtain ⟨n, hn⟩ := hw
      have HN := Lib.hid hn
      have hc2 : ∀ w, (convert 2 22 (.int .i64 n)).run Try.prog w = .ok (.float .f64 (floatOfInt .f64 n)) w := fun w => run_convert_int_float w 2 22 .i64 .f64 n (by kernel_rfl) (by kernel_rfl)
      have ho : FloatKind.f64.format.order (floatOfInt .f64 n) x = some .eq := ord_eq (wh_of n hn.2.1).1 hf (by rw [ofInt_val n hn.2.1, hn.2.2])
      clear hn hf hx
      go_enter Try.func3, Try.ntmps3
      go_wp2_with (first | ((with_reducible refine (tidy_fin _ _ HF.out).mono ?_); rintro e w' ⟨rfl, rfl⟩) | ((with_reducible refine (rtidy_fin _ _ HF.out).mono ?_); rintro e w' ⟨rfl, rfl⟩) | ((with_reducible refine (whole_yes _ _ _ HN.out).mono ?_); rintro e w' ⟨rfl, rfl⟩) | ((with_reducible refine (bits_same _ _ HZ.out).mono ?_); rintro e w' ⟨rfl, rfl⟩) | ((with_reducible refine (rwhole_yes _ _ _ HN.out).mono ?_); rintro e w' ⟨rfl, rfl⟩) | ((with_reducible refine (awake_calls _).mono ?_); rintro e w' ⟨rfl, m, rfl⟩))
      go_ret
      exact ⟨rfl, _, rfl⟩
    · have HB : Hid (false = true ↔ ∃ n, Wh x n) := Lib.hid (Iff.intro (fun e => by cases e) (fun e => absurd e hw))
      have HN : Hid (∀ n, ¬ Wh x n) := Lib.hid (fun n hn => hw ⟨n, hn⟩)
      clear hw hf hx
      go_enter Try.func3, Try.ntmps3
      go_wp2_with (first | ((with_reducible refine (tidy_fin _ _ HF.out).mono ?_); rintro e w' ⟨rfl, rfl⟩) | ((with_reducible refine (rtidy_fin _ _ HF.out).mono ?_); rintro e w' ⟨rfl, rfl⟩) | ((with_reducible refine (whole_no _ _ HX.out HN.out).mono ?_); rintro e w' ⟨rfl, rfl⟩) | ((with_reducible refine (bits_same _ _ HZ.out).mono ?_); rintro e w' ⟨rfl, rfl⟩) | ((with_reducible refine (rwhole_no _ _ HX.out HN.out).mono ?_); rintro e w' ⟨rfl, rfl⟩) | ((with_reducible refine (awake_calls _).mono ?_); rintro e w' ⟨rfl, m, rfl⟩))
      go_ret
      exact ⟨rfl, _, rfl⟩
  · have HF := Lib.hid hf
    have HZ := Lib.hid num_zero
    have HN : Hid (∀ n, ¬ Wh x n) := Lib.hid (fun n hn => hf hn.1)
    clear hf hx
    go_enter Try.func3, Try.ntmps3
    go_wp2_with (first | ((with_reducible refine (tidy_non _ _ HX.out HF.out).mono ?_); rintro e w' ⟨rfl, rfl⟩) | ((with_reducible refine (rtidy_non _ _ HX.out HF.out).mono ?_); rintro e w' ⟨rfl, rfl⟩) | ((with_reducible refine (whole_no _ _ HX.out HN.out).mono ?_); rintro e w' ⟨rfl, rfl⟩) | ((with_reducible refine (bits_same _ _ HZ.out).mono ?_); rintro e w' ⟨rfl, rfl⟩) | ((with_reducible refine (rwhole_no _ _ HX.out HN.out).mono ?_); rintro e w' ⟨rfl, rfl⟩) | ((with_reducible refine (awake_calls _).mono ?_); rintro e w' ⟨rfl, m, rfl⟩))
    go_ret
    exact ⟨rfl, _, rfl⟩
theorem bits_rs (z : Nat) (w : World) (hz : z < 18446744073709551616) : Calls Try.prog 13 #[.float .f64 (rs z).1, .float .f64 (rs z).1] w fun e w' => e = .returned (.bool true) ∧ w = w' := bits_same _ w (rs_num z hz)
set_option maxHeartbeats 1000000 in
theorem turns_law (a b : Nat) (w : World) (ha : a < 18446744073709551616) (hb : b < 18446744073709551616) : Calls Try.prog 9 #[.float .f64 a, .float .f64 b] w (Drew w) := by
  have HA := Lib.hid ha
  have HB := Lib.hid hb
  clear ha hb
  by_cases fa : Fnt a
  · have FA := Lib.hid fa
    by_cases fb : Fnt b
    · have FB := Lib.hid fb
      have nx := ze_num fa
      have ny := ze_num fb
      obtain ⟨x, hx⟩ : ∃ x, ze a = x := ⟨_, rfl⟩
      obtain ⟨y, hy⟩ : ∃ y, ze b = y := ⟨_, rfl⟩
      rw [hx] at nx
      rw [hy] at ny
      have X := Lib.hid hx
      have Y := Lib.hid hy
      have NX := Lib.hid nx
      have NY := Lib.hid ny
      have h1 := add_fin nx.1 ny.1
      obtain ⟨s, hs⟩ : ∃ s, Ieee.double.add x y = some s := ⟨_, h1⟩
      have h2 := mul_fin nx.1 ny.1
      obtain ⟨p, hp⟩ : ∃ p, Ieee.double.mul x y = some p := ⟨_, h2⟩
      have S1 : Hid (floatBits .add .f64 x y = some s) := Lib.hid hs
      have S2 : Hid (floatBits .add .f64 y x = some s) := Lib.hid ((add_comm' y x ny.1 nx.1).trans hs)
      have P1 : Hid (floatBits .mul .f64 x y = some p) := Lib.hid hp
      have P2 : Hid (floatBits .mul .f64 y x = some p) := Lib.hid ((mul_comm' y x ny.1 nx.1).trans hp)
      have D1 : Hid (floatBits .sub .f64 x x = some 0) := Lib.hid (sub_self' x nx.1)
      have SL := Lib.hid (bits_lt S1.out)
      have PL := Lib.hid (bits_lt P1.out)
      have M1 : Hid (mxw y x = mxw x y) := Lib.hid (by
        unfold mxw
        rcases Int.lt_trichotomy (V x) (V y) with h | h | h
        · have h' : ¬ V y < V x := by omega
          rw [if_pos h, if_neg h']
        · rw [V_inj nx ny h]
        · have h' : ¬ V x < V y := by omega
          rw [if_pos h, if_neg h'])
      have M2 : Hid (mnw y x = mnw x y) := Lib.hid (by
        unfold mnw
        rcases Int.lt_trichotomy (V x) (V y) with h | h | h
        · have h' : ¬ V y < V x := by omega
          rw [if_pos h, if_neg h']
        · rw [V_inj nx ny h]
        · have h' : ¬ V x < V y := by omega
          rw [if_pos h, if_neg h'])
      have f1 : Fnt (mxw x y) := by unfold mxw; split; exact ny.1; exact nx.1
      have f2 : Fnt (mnw x y) := by unfold mnw; split; exact ny.1; exact nx.1
      obtain ⟨mx, hmx⟩ : ∃ m, mxw x y = m := ⟨_, rfl⟩
      obtain ⟨mn, hmn⟩ : ∃ m, mnw x y = m := ⟨_, rfl⟩
      rw [hmx] at f1 M1
      rw [hmn] at f2 M2
      have MX := Lib.hid hmx
      have MN := Lib.hid hmn
      have o1 : FloatKind.f64.format.order mx mx = some .eq := ord_eq f1 f1 rfl
      have o2 : FloatKind.f64.format.order mn mn = some .eq := ord_eq f2 f2 rfl
      have r0 : rs 0 = (0, 0) := by decide
      have e1 : ((rs s).2 == (rs s).2) = true := by simp
      have e2 : ((rs p).2 == (rs p).2) = true := by simp
      clear fa fb nx ny h1 h2 hs hp hx hy f1 f2 hmx hmn
      go_enter Try.func9, Try.ntmps9
      go_wp2_with (first | ((with_reducible refine (rtidy_fin _ _ FA.out).mono ?_); rintro e w' ⟨rfl, rfl⟩; rw [X.out]) | ((with_reducible refine (rtidy_fin _ _ FB.out).mono ?_); rintro e w' ⟨rfl, rfl⟩; rw [Y.out]) | ((with_reducible refine (add_calls _ _ _ _ S1.out).mono ?_); rintro e w' ⟨rfl, rfl⟩) | ((with_reducible refine (add_calls _ _ _ _ S2.out).mono ?_); rintro e w' ⟨rfl, rfl⟩) | ((with_reducible refine (mul_calls _ _ _ _ P1.out).mono ?_); rintro e w' ⟨rfl, rfl⟩) | ((with_reducible refine (mul_calls _ _ _ _ P2.out).mono ?_); rintro e w' ⟨rfl, rfl⟩) | ((with_reducible refine (sub_calls _ _ _ _ D1.out).mono ?_); rintro e w' ⟨rfl, rfl⟩; rw [r0]) | ((with_reducible refine (bits_rs _ _ SL.out).mono ?_); rintro e w' ⟨rfl, rfl⟩) | ((with_reducible refine (bits_rs _ _ PL.out).mono ?_); rintro e w' ⟨rfl, rfl⟩) | ((with_reducible refine (bits_same _ _ num_zero).mono ?_); rintro e w' ⟨rfl, rfl⟩) | ((with_reducible refine (max_calls _ _ _ NX.out NY.out).mono ?_); rintro e w' ⟨rfl, rfl⟩; rw [MX.out]) | ((with_reducible refine (max_calls _ _ _ NY.out NX.out).mono ?_); rintro e w' ⟨rfl, rfl⟩; rw [M1.out]) | ((with_reducible refine (min_calls _ _ _ NX.out NY.out).mono ?_); rintro e w' ⟨rfl, rfl⟩; rw [MN.out]) | ((with_reducible refine (min_calls _ _ _ NY.out NX.out).mono ?_); rintro e w' ⟨rfl, rfl⟩; rw [M2.out]) | ((with_reducible refine (awake_calls _).mono ?_); rintro e w' ⟨rfl, m, rfl⟩))
      go_ret
      exact ⟨rfl, _, rfl⟩
    · have FB := Lib.hid fb
      clear fa fb
      go_enter Try.func9, Try.ntmps9
      go_wp2_with (first | ((with_reducible refine (rtidy_fin _ _ FA.out).mono ?_); rintro e w' ⟨rfl, rfl⟩) | ((with_reducible refine (rtidy_non _ _ HB.out FB.out).mono ?_); rintro e w' ⟨rfl, rfl⟩) | ((with_reducible refine (awake_calls _).mono ?_); rintro e w' ⟨rfl, m, rfl⟩))
      go_ret
      exact ⟨rfl, _, rfl⟩
  · have FA := Lib.hid fa
    by_cases fb : Fnt b
    · have FB := Lib.hid fb
      clear fa fb
      go_enter Try.func9, Try.ntmps9
      go_wp2_with (first | ((with_reducible refine (rtidy_non _ _ HA.out FA.out).mono ?_); rintro e w' ⟨rfl, rfl⟩) | ((with_reducible refine (rtidy_fin _ _ FB.out).mono ?_); rintro e w' ⟨rfl, rfl⟩) | ((with_reducible refine (awake_calls _).mono ?_); rintro e w' ⟨rfl, m, rfl⟩))
      go_ret
      exact ⟨rfl, _, rfl⟩
    · have FB := Lib.hid fb
      clear fa fb
      go_enter Try.func9, Try.ntmps9
      go_wp2_with (first | ((with_reducible refine (rtidy_non _ _ HA.out FA.out).mono ?_); rintro e w' ⟨rfl, rfl⟩) | ((with_reducible refine (rtidy_non _ _ HB.out FB.out).mono ?_); rintro e w' ⟨rfl, rfl⟩) | ((with_reducible refine (awake_calls _).mono ?_); rintro e w' ⟨rfl, m, rfl⟩))
      go_ret
      exact ⟨rfl, _, rfl⟩
theorem below_drewN (w : World) (m : Nat) : Below w.heap.size w (w.drewN m) := ⟨rfl, rfl, rfl, Nat.le_refl _, fun _ _ => rfl⟩
theorem frame_of {e : Ending} {w w' : World} (h : Drew w e w') : e = .returned (.bool true) ∧ Below w.heap.size w w' := by
  obtain ⟨rfl, m, rfl⟩ := h
  exact ⟨rfl, below_drewN _ _⟩
theorem tidy_frame (w : World) (x : Nat) (hx : (Lit.float .f64 x).wf = true) : Calls Try.prog 3 #[.float .f64 x] w fun e w' => e = .returned (.bool true) ∧ Below w.heap.size w w' := (tidy_law x w (wf_f64 hx)).mono fun _ _ h => frame_of h
theorem turns_frame (w : World) (a : Nat) (ha : (Lit.float .f64 a).wf = true) (b : Nat) (hb : (Lit.float .f64 b).wf = true) : Calls Try.prog 9 #[.float .f64 a, .float .f64 b] w fun e w' => e = .returned (.bool true) ∧ Below w.heap.size w w' := (turns_law a b w (wf_f64 ha) (wf_f64 hb)).mono fun _ _ h => frame_of h
end Go.Proofs.Ytlgdkpiaibhpjaa

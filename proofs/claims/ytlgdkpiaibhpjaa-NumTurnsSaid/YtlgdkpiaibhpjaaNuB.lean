/- Package num, walked: whole numbers. -/
import Derived.Test.YtlgdkpiaibhpjaaNuA
import Derived.Test.YtlgdkpiaibhpjaaNuN
import Derived.IntWalk
namespace Go.Proofs.Ytlgdkpiaibhpjaa
open Go.RowKit Fl
set_option linter.unusedVariables false
/-- A float cut to a whole number. -/
def tr (x : Nat) : Nat := Ieee.double.nearest (sg x) ((V x).natAbs / pw 1074) 0
theorem run_integral (P : Program) (name : String) (way : Ieee.Toward) (hw : way ≠ .even) (x : Nat) (hx : Fnt x) (w : World) : (Extern.MathFloor.toIntegral name way #[.float .f64 x]).run P w = .ok (.float .f64 (Ieee.double.nearest (sg x) (way.cut (sg x) (V x).natAbs 1074) 0)) w := by
  obtain ⟨m, k, h1, _, _⟩ := read_fin' hx
  have h2 := integral_fin hx way hw
  have h3 : FloatKind.f64.decode x = Ieee.Datum.number (sg x) m (-1074 + k) := h1
  rw [h1] at h2
  have h4 : ∀ d, FloatKind.f64.decode x = d → (∃ s m p, d = Ieee.Datum.number s m p) → Extern.MathFloor.toIntegral name way #[.float .f64 x] = pure (.float .f64 (FloatKind.f64.encode (d.integral way))) := by
    intro d hd ⟨s, m, p, e⟩
    subst e
    show (match FloatKind.f64.decode x with
      | .nan s t => _
      | d => pure (.float .f64 (FloatKind.f64.encode (d.integral way))) : Sem Value) = _
    rw [hd]
  rw [h4 _ h3 ⟨_, _, _, rfl⟩, h2]
  rfl
theorem trunc_calls (x : Nat) (w : World) (hx : Fnt x) : Calls Try.prog 45 #[.float .f64 x] w fun e w' => e = .returned (.float .f64 (tr x)) ∧ w = w' := by
  have x1 := @run_callFunc_extern Try.prog 56 _ (Extern.MathFloor.toIntegral "math.archTrunc" .zero) Try.func56 (by kernel_rfl) (by kernel_rfl) (by kernel_rfl) (by kernel_rfl)
  have x2 : ∀ w, (Extern.MathFloor.toIntegral "math.archTrunc" .zero #[.float .f64 x]).run Try.prog w = .ok (.float .f64 (tr x)) w := fun w => by
    rw [run_integral _ _ _ (by decide) x hx, cut_zero', tr]
  go_enter Try.func45, Try.ntmps45
  go_wp2
  go_ret
  exact ⟨rfl, rfl⟩
/-- A float that is a whole number. -/
def Wh (x : Nat) (n : Int) : Prop := Fnt x ∧ n.natAbs ≤ 9007199254740992 ∧ V x = n * pw 1074
/-- How a word stands to the greatest and the least whole number. -/
theorem bounds_cases (x : Nat) (hx : x < 18446744073709551616) :
    (FloatKind.f64.format.order x 14069245235905429504 = none ∧ ¬ Fnt x) ∨ (FloatKind.f64.format.order x 14069245235905429504 = some .lt ∧ ∀ n, ¬ Wh x n)
    ∨ ((FloatKind.f64.format.order x 14069245235905429504 = some .gt ∨ FloatKind.f64.format.order x 14069245235905429504 = some .eq) ∧ FloatKind.f64.format.order x 4845873199050653696 = some .gt ∧ ∀ n, ¬ Wh x n)
    ∨ ((FloatKind.f64.format.order x 14069245235905429504 = some .gt ∨ FloatKind.f64.format.order x 14069245235905429504 = some .eq) ∧ (FloatKind.f64.format.order x 4845873199050653696 = some .lt ∨ FloatKind.f64.format.order x 4845873199050653696 = some .eq) ∧ Fnt x ∧ (V x).natAbs ≤ 9007199254740992 * pw 1074) := by
  have hp : (0 : Int) < pw 1074 := by exact_mod_cast pw_pos 1074
  by_cases hf : Fnt x
  · have nw : ∀ n, Wh x n → -(9007199254740992 * (pw 1074 : Int)) ≤ V x ∧ V x ≤ 9007199254740992 * (pw 1074 : Int) := by
      rintro n ⟨_, h1, h2⟩
      rw [h2]
      exact ⟨by rw [← Int.neg_mul]; exact Int.mul_le_mul_of_nonneg_right (by omega) (Int.le_of_lt hp), Int.mul_le_mul_of_nonneg_right (by omega) (Int.le_of_lt hp)⟩
    rcases ord_cases hf bot_fin with h | h | h
    · exact .inr (.inl ⟨h.2, fun n hn => by have := (nw n hn).1; have := h.1; rw [V_bot] at this; omega⟩)
    all_goals
      rcases ord_cases hf top_fin with g | g | g
      · refine .inr (.inr (.inr ⟨?_, .inl g.2, hf, ?_⟩))
        · first | exact .inl h.2 | exact .inr h.2
        · have a := h.1; have b := g.1; rw [V_bot] at a; rw [V_top] at b; generalize pw 1074 = t at *; omega
      · refine .inr (.inr (.inr ⟨?_, .inr g.2, hf, ?_⟩))
        · first | exact .inl h.2 | exact .inr h.2
        · have a := h.1; have b := g.1; rw [V_bot] at a; rw [V_top] at b; generalize pw 1074 = t at *; omega
      · refine .inr (.inr (.inl ⟨?_, g.2, fun n hn => by have := (nw n hn).2; have := g.1; rw [V_top] at this; omega⟩))
        first | exact .inl h.2 | exact .inr h.2
  · rcases read_non hx hf with ⟨s, _, rfl⟩ | hnan
    · cases s
      · exact .inr (.inr (.inl ⟨.inl (by decide), by decide, fun n hn => hf hn.1⟩))
      · exact .inr (.inl ⟨by decide, fun n hn => hf hn.1⟩)
    · exact .inl ⟨ord_nan hnan, hf⟩
theorem wh_tr (x : Nat) (hx : Fnt x) (hb : (V x).natAbs ≤ 9007199254740992 * pw 1074) : Fnt (tr x) ∧ (V (tr x) = V x ↔ ∃ n, Wh x n) := by
  have hq : (V x).natAbs / pw 1074 ≤ 9007199254740992 := by
    exact Nat.div_le_of_le_mul (by rw [Nat.mul_comm]; exact hb)
  obtain ⟨h1, h2⟩ := nearest_whole (sg x) _ hq
  refine ⟨h1, ?_⟩
  rw [show V (tr x) = _ from h2]
  have hs := V_sg x
  constructor
  · intro h
    clear h2 h1 hs hb
    generalize (V x).natAbs / pw 1074 = q at *
    refine ⟨if sg x then -(q : Int) else q, hx, by split <;> omega, ?_⟩
    rw [← h]
    split <;> simp [Int.neg_mul]
  · rintro ⟨n, _, h3, h4⟩
    have h5 : (V x).natAbs = n.natAbs * pw 1074 := by rw [h4, Int.natAbs_mul]; simp
    rw [h5, Nat.mul_div_cancel _ (pw_pos 1074), ← h5]
    exact hs.symm
theorem wh_int (x : Nat) (n : Int) (h : Wh x n) : floatToIntVal .f64 x .i64 = some n := by
  have hd : FloatKind.f64.decode x = Ieee.double.read x := rfl
  have hm : IntKind.i64.min = -9223372036854775808 ∧ IntKind.i64.max = 9223372036854775807 := by decide
  have hp : (pw 1074 : Int) ≠ 0 := by have := pw_pos 1074; omega
  unfold floatToIntVal
  rw [hd, toInt_fin h.1, h.2.2, Int.mul_tdiv_cancel _ hp]
  have := h.2.1
  simp only
  rw [if_pos ⟨by omega, by omega⟩]
theorem whole_yes (x : Nat) (n : Int) (w : World) (h : Wh x n) : Calls Try.prog 12 #[.float .f64 x] w fun e w' => e = .returned (.tuple #[.int .i64 n, .bool true]) ∧ w = w' := by
  have hi := wh_int x n h
  have hc : ∀ w, (convert 22 2 (.float .f64 x)).run Try.prog w = .ok (.int .i64 n) w := fun w => run_convert_float_int w 22 2 .f64 .i64 x n (by kernel_rfl) (by kernel_rfl) hi
  rcases bounds_cases x h.1.1 with ⟨_, hf⟩ | ⟨_, hf⟩ | ⟨_, _, hf⟩ | ⟨h1, h2, hf, hb⟩
  · exact absurd h.1 hf
  · exact absurd h (hf n)
  · exact absurd h (hf n)
  have ht := wh_tr x hf hb
  have h3 : FloatKind.f64.format.order x (tr x) = some .eq := ord_eq hf ht.1 (ht.2.2 ⟨n, h⟩).symm
  have HF := Lib.hid hf
  clear hf hb ht hi h
  rcases h1 with h1 | h1 <;> rcases h2 with h2 | h2
  all_goals
    go_enter Try.func12, Try.ntmps12
    go_wp2_with (refine (trunc_calls _ _ HF.out).mono ?_; rintro e w' ⟨rfl, rfl⟩)
    go_ret2
    exact ⟨rfl, rfl⟩
theorem whole_no (x : Nat) (w : World) (hx : x < 18446744073709551616) (h : ∀ n, ¬ Wh x n) : Calls Try.prog 12 #[.float .f64 x] w fun e w' => e = .returned (.tuple #[.int .i64 0, .bool false]) ∧ w = w' := by
  rcases bounds_cases x hx with ⟨h1, hf⟩ | ⟨h1, hf⟩ | ⟨h1, h2, hf⟩ | ⟨h1, h2, hf, hb⟩
  · clear hf h
    go_enter Try.func12, Try.ntmps12
    go_wp2
    go_ret2
    exact ⟨rfl, rfl⟩
  · clear hf h
    go_enter Try.func12, Try.ntmps12
    go_wp2
    go_ret2
    exact ⟨rfl, rfl⟩
  · clear hf h
    rcases h1 with h1 | h1
    all_goals
      go_enter Try.func12, Try.ntmps12
      go_wp2
      go_ret2
      exact ⟨rfl, rfl⟩
  · have ht := wh_tr x hf hb
    have h3 : FloatKind.f64.format.order x (tr x) = some .lt ∨ FloatKind.f64.format.order x (tr x) = some .gt := ord_ne hf ht.1 (fun e => by obtain ⟨n, hn⟩ := ht.2.1 e.symm; exact h n hn)
    have HF := Lib.hid hf
    clear hf hb ht h
    rcases h1 with h1 | h1 <;> rcases h2 with h2 | h2 <;> rcases h3 with h3 | h3
    all_goals
      go_enter Try.func12, Try.ntmps12
      go_wp2_with (refine (trunc_calls _ _ HF.out).mono ?_; rintro e w' ⟨rfl, rfl⟩)
      go_ret2
      exact ⟨rfl, rfl⟩
theorem int_of (x : Nat) (hx : Fnt x) (hb : (V x).natAbs ≤ 9007199254740992 * pw 1074) : ∃ n : Int, floatToIntVal .f64 x .i64 = some n ∧ n.natAbs ≤ 9007199254740992 ∧ n = (V x).tdiv (pw 1074) := by
  have hd : FloatKind.f64.decode x = Ieee.double.read x := rfl
  have hm : IntKind.i64.min = -9223372036854775808 ∧ IntKind.i64.max = 9223372036854775807 := by decide
  have hq : ((V x).tdiv (pw 1074)).natAbs ≤ 9007199254740992 := by
    rw [Int.natAbs_tdiv]
    exact Nat.div_le_of_le_mul (by rw [Nat.mul_comm, Int.natAbs_natCast]; exact hb)
  refine ⟨(V x).tdiv (pw 1074), ?_, hq, rfl⟩
  unfold floatToIntVal
  rw [hd, toInt_fin hx]
  simp only
  rw [if_pos ⟨by omega, by omega⟩]
theorem int_back (x : Nat) (hx : Fnt x) (n : Int) (h1 : n.natAbs ≤ 9007199254740992) (h2 : n = (V x).tdiv (pw 1074)) : V (floatOfInt .f64 n) = V x ↔ ∃ m, Wh x m := by
  have hp : (pw 1074 : Int) ≠ 0 := by have := pw_pos 1074; omega
  rw [ofInt_val n h1]
  constructor
  · intro h; exact ⟨n, hx, h1, h.symm⟩
  · rintro ⟨m, h3⟩
    rw [h2, h3.2.2, Int.mul_tdiv_cancel _ hp]
theorem rwhole_calls (x : Nat) (w : World) (hx : x < 18446744073709551616) (b : Bool) (hb : b = true ↔ ∃ n, Wh x n) : Calls Try.prog 14 #[.float .f64 x] w fun e w' => e = .returned (.bool b) ∧ w = w' := by
  rcases bounds_cases x hx with ⟨h1, hf⟩ | ⟨h1, hf⟩ | ⟨h1, h2, hf⟩ | ⟨h1, h2, hf, hbd⟩
  · have e : b = false := Bool.eq_false_iff.2 fun e => by obtain ⟨n, hn⟩ := hb.1 e; exact hf hn.1
    subst e
    clear hf hb
    go_enter Try.func14, Try.ntmps14
    go_wp2
    go_ret
    exact ⟨rfl, rfl⟩
  · have e : b = false := Bool.eq_false_iff.2 fun e => by obtain ⟨n, hn⟩ := hb.1 e; exact hf n hn
    subst e
    clear hf hb
    go_enter Try.func14, Try.ntmps14
    go_wp2
    go_ret
    exact ⟨rfl, rfl⟩
  · have e : b = false := Bool.eq_false_iff.2 fun e => by obtain ⟨n, hn⟩ := hb.1 e; exact hf n hn
    subst e
    clear hf hb
    rcases h1 with h1 | h1
    all_goals
      go_enter Try.func14, Try.ntmps14
      go_wp2
      go_ret
      exact ⟨rfl, rfl⟩
  · obtain ⟨n, hn1, hn2, hn3⟩ := int_of x hf hbd
    have hback := int_back x hf n hn2 hn3
    have hc : ∀ w, (convert 22 2 (.float .f64 x)).run Try.prog w = .ok (.int .i64 n) w := fun w => run_convert_float_int w 22 2 .f64 .i64 x n (by kernel_rfl) (by kernel_rfl) hn1
    have hc2 : ∀ w, (convert 2 22 (.int .i64 n)).run Try.prog w = .ok (.float .f64 (floatOfInt .f64 n)) w := fun w => run_convert_int_float w 2 22 .i64 .f64 n (by kernel_rfl) (by kernel_rfl)
    have hof := ofInt_fin n (by omega)
    by_cases hm : ∃ n, Wh x n
    · have e : b = true := hb.2 hm
      subst e
      have h3 : FloatKind.f64.format.order (floatOfInt .f64 n) x = some .eq := ord_eq hof hf (hback.2 hm)
      clear hb hm hback hof hf hbd hn1 hn2 hn3
      rcases h1 with h1 | h1 <;> rcases h2 with h2 | h2
      all_goals
        go_enter Try.func14, Try.ntmps14
        go_wp2
        go_ret
        exact ⟨rfl, rfl⟩
    · have e : b = false := Bool.eq_false_iff.2 fun e => hm (hb.1 e)
      subst e
      have h3 : FloatKind.f64.format.order (floatOfInt .f64 n) x = some .lt ∨ FloatKind.f64.format.order (floatOfInt .f64 n) x = some .gt := ord_ne hof hf fun e => hm (hback.1 e)
      clear hb hm hback hof hf hbd hn1 hn2 hn3
      rcases h1 with h1 | h1 <;> rcases h2 with h2 | h2 <;> rcases h3 with h3 | h3
      all_goals
        go_enter Try.func14, Try.ntmps14
        go_wp2
        go_ret
        exact ⟨rfl, rfl⟩

/-- A whole number of a size that fits. -/
def sm (n : Int) : Bool := decide (-9007199254740992 ≤ n ∧ n ≤ 9007199254740992)
theorem sm_yes {n : Int} (h1 : -9007199254740992 ≤ n) (h2 : n ≤ 9007199254740992) : sm n = true := decide_eq_true ⟨h1, h2⟩
theorem sm_no {n : Int} (h : n < -9007199254740992 ∨ 9007199254740992 < n) : sm n = false := decide_eq_false (by omega)
theorem sm_of {n : Int} (h : sm n = true) : -9007199254740992 ≤ n ∧ n ≤ 9007199254740992 := of_decide_eq_true h
theorem sm_not {n : Int} (h : sm n = false) : n < -9007199254740992 ∨ 9007199254740992 < n := by have := of_decide_eq_false h; omega
theorem ret_b {a b : Bool} (h : a = b) : Ending.returned (.bool a) = .returned (.bool b) := by rw [h]
theorem fits_calls (n : Int) (w : World) : Calls Try.prog 46 #[.int .i64 n] w fun e w' => e = .returned (.bool (sm n)) ∧ w = w' := by
  rcases Int.lt_or_le n (-9007199254740992) with h | h
  · have hs := Lib.hid (sm_no (Or.inl h))
    go_enter Try.func46, Try.ntmps46
    go_wp2
    all_goals (go_ret; first | exact ⟨ret_b hs.out.symm, rfl⟩ | exact ⟨ret_b (by rw [hs.out]; exact decide_eq_false (by omega)), rfl⟩)
  · rcases Int.lt_or_le 9007199254740992 n with h2 | h2
    · have hs := Lib.hid (sm_no (Or.inr h2))
      go_enter Try.func46, Try.ntmps46
      go_wp2
      all_goals (go_ret; first | exact ⟨ret_b hs.out.symm, rfl⟩ | exact ⟨ret_b (by rw [hs.out]; exact decide_eq_false (by omega)), rfl⟩)
    · have hs := Lib.hid (sm_yes h h2)
      go_enter Try.func46, Try.ntmps46
      go_wp2
      all_goals (go_ret; first | exact ⟨ret_b hs.out.symm, rfl⟩ | exact ⟨ret_b (by rw [hs.out]; exact decide_eq_false (by omega)), rfl⟩)
theorem small_calls (n : Int) (w : World) : Calls Try.prog 19 #[.int .i64 n] w fun e w' => e = .returned (.bool (sm n)) ∧ w = w' := by
  rcases Int.lt_or_le n (-9007199254740992) with h | h
  · have hs := Lib.hid (sm_no (Or.inl h))
    go_enter Try.func19, Try.ntmps19
    go_wp2
    all_goals (go_ret; first | exact ⟨ret_b hs.out.symm, rfl⟩ | exact ⟨ret_b (by rw [hs.out]; exact decide_eq_false (by omega)), rfl⟩)
  · rcases Int.lt_or_le 9007199254740992 n with h2 | h2
    · have hs := Lib.hid (sm_no (Or.inr h2))
      go_enter Try.func19, Try.ntmps19
      go_wp2
      all_goals (go_ret; first | exact ⟨ret_b hs.out.symm, rfl⟩ | exact ⟨ret_b (by rw [hs.out]; exact decide_eq_false (by omega)), rfl⟩)
    · have hs := Lib.hid (sm_yes h h2)
      go_enter Try.func19, Try.ntmps19
      go_wp2
      all_goals (go_ret; first | exact ⟨ret_b hs.out.symm, rfl⟩ | exact ⟨ret_b (by rw [hs.out]; exact decide_eq_false (by omega)), rfl⟩)
theorem fitting_yes (n : Int) (w : World) (h : sm n = true) : Calls Try.prog 47 #[.int .i64 n] w fun e w' => e = .returned (.tuple #[.int .i64 n, .bool true]) ∧ w = w' := by
  go_enter Try.func47, Try.ntmps47
  go_wp2_with (refine (fits_calls _ _).mono ?_; rintro e w' ⟨rfl, rfl⟩)
  go_ret2
  exact ⟨rfl, rfl⟩
theorem fitting_no (n : Int) (w : World) (h : sm n = false) : Calls Try.prog 47 #[.int .i64 n] w fun e w' => e = .returned (.tuple #[.int .i64 0, .bool false]) ∧ w = w' := by
  go_enter Try.func47, Try.ntmps47
  go_wp2_with (refine (fits_calls _ _).mono ?_; rintro e w' ⟨rfl, rfl⟩)
  go_ret2
  exact ⟨rfl, rfl⟩
theorem ret_i {k : IntKind} {a b : Int} (h : a = b) : Ending.returned (.int k a) = .returned (.int k b) := by rw [h]
theorem size_calls (n : Int) (w : World) (h : -9223372036854775808 < n) (h2 : n ≤ 9223372036854775807) : Calls Try.prog 48 #[.int .i64 n] w fun e w' => e = .returned (.int .i64 n.natAbs) ∧ w = w' := by
  rcases Int.lt_or_le n 0 with h3 | h3
  · obtain ⟨m, rfl⟩ : ∃ m : Nat, n = -(m : Int) := ⟨n.natAbs, by omega⟩
    have hs := Lib.hid (show (m : Int) = ((-(m : Int)).natAbs : Int) by omega)
    go_enter Try.func48, Try.ntmps48
    go_wp2
    all_goals (go_ret; exact ⟨ret_i hs.out, rfl⟩)
  · have hs := Lib.hid (show n = (n.natAbs : Int) by omega)
    go_enter Try.func48, Try.ntmps48
    go_wp2
    all_goals (go_ret; exact ⟨ret_i hs.out, rfl⟩)
theorem addint_yes (a b : Int) (w : World) (ha : sm a = true) (hb : sm b = true) (hs : sm (a + b) = true) : Calls Try.prog 16 #[.int .i64 a, .int .i64 b] w fun e w' => e = .returned (.tuple #[.int .i64 (a + b), .bool true]) ∧ w = w' := by
  obtain ⟨a1, a2⟩ := sm_of ha
  obtain ⟨b1, b2⟩ := sm_of hb
  have HS := Lib.hid hs
  clear hs
  go_enter Try.func16, Try.ntmps16
  go_wp2_with (first | (refine (fits_calls _ _).mono ?_; rintro e w' ⟨rfl, rfl⟩) | (refine (fitting_yes _ _ HS.out).mono ?_; rintro e w' ⟨rfl, rfl⟩))
  go_ret2
  exact ⟨rfl, rfl⟩
theorem addint_no1 (a b : Int) (w : World) (ha : sm a = false) : Calls Try.prog 16 #[.int .i64 a, .int .i64 b] w fun e w' => e = .returned (.tuple #[.int .i64 0, .bool false]) ∧ w = w' := by
  go_enter Try.func16, Try.ntmps16
  go_wp2_with (refine (fits_calls _ _).mono ?_; rintro e w' ⟨rfl, rfl⟩)
  go_ret2
  exact ⟨rfl, rfl⟩
theorem addint_no2 (a b : Int) (w : World) (ha : sm a = true) (hb : sm b = false) : Calls Try.prog 16 #[.int .i64 a, .int .i64 b] w fun e w' => e = .returned (.tuple #[.int .i64 0, .bool false]) ∧ w = w' := by
  go_enter Try.func16, Try.ntmps16
  go_wp2_with (refine (fits_calls _ _).mono ?_; rintro e w' ⟨rfl, rfl⟩)
  go_ret2
  exact ⟨rfl, rfl⟩
theorem addint_no3 (a b : Int) (w : World) (ha : sm a = true) (hb : sm b = true) (hs : sm (a + b) = false) : Calls Try.prog 16 #[.int .i64 a, .int .i64 b] w fun e w' => e = .returned (.tuple #[.int .i64 0, .bool false]) ∧ w = w' := by
  obtain ⟨a1, a2⟩ := sm_of ha
  obtain ⟨b1, b2⟩ := sm_of hb
  have HS := Lib.hid hs
  clear hs
  go_enter Try.func16, Try.ntmps16
  go_wp2_with (first | (refine (fits_calls _ _).mono ?_; rintro e w' ⟨rfl, rfl⟩) | (refine (fitting_no _ _ HS.out).mono ?_; rintro e w' ⟨rfl, rfl⟩))
  go_ret2
  exact ⟨rfl, rfl⟩
theorem subint_yes (a b : Int) (w : World) (ha : sm a = true) (hb : sm b = true) (hs : sm (a - b) = true) : Calls Try.prog 17 #[.int .i64 a, .int .i64 b] w fun e w' => e = .returned (.tuple #[.int .i64 (a - b), .bool true]) ∧ w = w' := by
  obtain ⟨a1, a2⟩ := sm_of ha
  obtain ⟨b1, b2⟩ := sm_of hb
  have HS := Lib.hid hs
  clear hs
  go_enter Try.func17, Try.ntmps17
  go_wp2_with (first | (refine (fits_calls _ _).mono ?_; rintro e w' ⟨rfl, rfl⟩) | (refine (fitting_yes _ _ HS.out).mono ?_; rintro e w' ⟨rfl, rfl⟩))
  go_ret2
  exact ⟨rfl, rfl⟩
theorem subint_no1 (a b : Int) (w : World) (ha : sm a = false) : Calls Try.prog 17 #[.int .i64 a, .int .i64 b] w fun e w' => e = .returned (.tuple #[.int .i64 0, .bool false]) ∧ w = w' := by
  go_enter Try.func17, Try.ntmps17
  go_wp2_with (refine (fits_calls _ _).mono ?_; rintro e w' ⟨rfl, rfl⟩)
  go_ret2
  exact ⟨rfl, rfl⟩
theorem subint_no2 (a b : Int) (w : World) (ha : sm a = true) (hb : sm b = false) : Calls Try.prog 17 #[.int .i64 a, .int .i64 b] w fun e w' => e = .returned (.tuple #[.int .i64 0, .bool false]) ∧ w = w' := by
  go_enter Try.func17, Try.ntmps17
  go_wp2_with (refine (fits_calls _ _).mono ?_; rintro e w' ⟨rfl, rfl⟩)
  go_ret2
  exact ⟨rfl, rfl⟩
theorem subint_no3 (a b : Int) (w : World) (ha : sm a = true) (hb : sm b = true) (hs : sm (a - b) = false) : Calls Try.prog 17 #[.int .i64 a, .int .i64 b] w fun e w' => e = .returned (.tuple #[.int .i64 0, .bool false]) ∧ w = w' := by
  obtain ⟨a1, a2⟩ := sm_of ha
  obtain ⟨b1, b2⟩ := sm_of hb
  have HS := Lib.hid hs
  clear hs
  go_enter Try.func17, Try.ntmps17
  go_wp2_with (first | (refine (fits_calls _ _).mono ?_; rintro e w' ⟨rfl, rfl⟩) | (refine (fitting_no _ _ HS.out).mono ?_; rintro e w' ⟨rfl, rfl⟩))
  go_ret2
  exact ⟨rfl, rfl⟩
theorem rsize_calls (n : Int) (w : World) (h : -9223372036854775808 < n) (h2 : n ≤ 9223372036854775807) : Calls Try.prog 49 #[.int .i64 n] w fun e w' => e = .returned (.int .i64 n.natAbs) ∧ w = w' := by
  rcases Int.lt_or_le n 0 with h3 | h3
  · have hs := Lib.hid (show 0 - n = (n.natAbs : Int) by omega)
    have hs2 := Lib.hid (show - n = (n.natAbs : Int) by omega)
    go_enter Try.func49, Try.ntmps49
    go_wp2
    all_goals (go_ret; first | exact ⟨ret_i hs.out, rfl⟩ | exact ⟨ret_i hs2.out, rfl⟩)
  · have hs := Lib.hid (show n = (n.natAbs : Int) by omega)
    go_enter Try.func49, Try.ntmps49
    go_wp2
    all_goals (go_ret; exact ⟨ret_i hs.out, rfl⟩)
/-- A product that fits. -/
def pm (a b : Int) : Bool := decide (a.natAbs * b.natAbs ≤ 9007199254740992)
theorem pm_div {a b : Int} (ha : a ≠ 0) : (pm a b = true) ↔ (b.natAbs : Int) ≤ 9007199254740992 / (a.natAbs : Int) := by
  unfold pm
  rw [decide_eq_true_iff, Nat.mul_comm, ← Nat.le_div_iff_mul_le (by omega), show (9007199254740992 : Int) = ((9007199254740992 : Nat) : Int) from rfl, ← Int.natCast_ediv]
  exact Int.ofNat_le.symm
theorem pm_zero {b : Int} : pm 0 b = true := by simp [pm]
theorem mulint_zero (b : Int) (w : World) (hb : sm b = true) : Calls Try.prog 18 #[.int .i64 0, .int .i64 b] w fun e w' => e = .returned (.tuple #[.int .i64 0, .bool true]) ∧ w = w' := by
  have ha : sm 0 = true := by decide
  obtain ⟨b1, b2⟩ := sm_of hb
  go_enter Try.func18, Try.ntmps18
  go_wp2_with (refine (fits_calls _ _).mono ?_; rintro e w' ⟨rfl, rfl⟩)
  go_ret2
  exact ⟨rfl, rfl⟩
theorem mulint_no1 (a b : Int) (w : World) (ha : sm a = false) : Calls Try.prog 18 #[.int .i64 a, .int .i64 b] w fun e w' => e = .returned (.tuple #[.int .i64 0, .bool false]) ∧ w = w' := by
  go_enter Try.func18, Try.ntmps18
  go_wp2_with (refine (fits_calls _ _).mono ?_; rintro e w' ⟨rfl, rfl⟩)
  go_ret2
  exact ⟨rfl, rfl⟩
theorem mulint_no2 (a b : Int) (w : World) (ha : sm a = true) (hb : sm b = false) : Calls Try.prog 18 #[.int .i64 a, .int .i64 b] w fun e w' => e = .returned (.tuple #[.int .i64 0, .bool false]) ∧ w = w' := by
  go_enter Try.func18, Try.ntmps18
  go_wp2_with (refine (fits_calls _ _).mono ?_; rintro e w' ⟨rfl, rfl⟩)
  go_ret2
  exact ⟨rfl, rfl⟩
theorem pm_bound {a b : Int} (h : pm a b = true) : -9007199254740992 ≤ a * b ∧ a * b ≤ 9007199254740992 := by
  have h1 : a.natAbs * b.natAbs ≤ 9007199254740992 := of_decide_eq_true h
  rw [← Int.natAbs_mul] at h1
  omega
theorem mulint_any (a b : Int) (w : World) (ha : sm a = true) (hb : sm b = true) (h0 : a ≠ 0) (r : Bool) (hr : pm a b = r) : Calls Try.prog 18 #[.int .i64 a, .int .i64 b] w fun e w' => e = .returned (.tuple #[.int .i64 (if r then a * b else 0), .bool r]) ∧ w = w' := by
  obtain ⟨a1, a2⟩ := sm_of ha
  obtain ⟨b1, b2⟩ := sm_of hb
  have hz : ((a : Int) == 0) = false := by simpa using h0
  have hz' : ((a : Int) != 0) = true := by simpa using h0
  have hd := pm_div (b := b) h0
  have q1 : 0 < (a.natAbs : Int) := by omega
  obtain ⟨u, hu⟩ : ∃ u : Nat, a.natAbs = u := ⟨_, rfl⟩
  obtain ⟨v, hv⟩ : ∃ v : Nat, b.natAbs = v := ⟨_, rfl⟩
  rw [hu] at q1
  rw [hu, hv] at hd
  have HU := Lib.hid hu
  have HV := Lib.hid hv
  have hu1 : (u : Int) ≤ 9007199254740992 := by omega
  clear hu hv
  cases r
  · have hlt : 9007199254740992 / (u : Int) < v := by
      rcases Int.lt_or_le (9007199254740992 / (u : Int)) v with h | h
      · exact h
      · rw [hd.2 h] at hr; cases hr
    clear hd hr h0
    go_enter Try.func18, Try.ntmps18
    go_wp2_with (first | (refine (fits_calls _ _).mono ?_; rintro e w' ⟨rfl, rfl⟩) | (refine (size_calls _ _ (by omega) (by omega)).mono ?_; rintro e w' ⟨rfl, rfl⟩; first | rw [HU.out] | rw [HV.out]))
    go_ret2
    exact ⟨rfl, rfl⟩
  · have hle := hd.1 hr
    have hb := pm_bound hr
    obtain ⟨p1, p2⟩ := hb
    clear hd hr h0
    go_enter Try.func18, Try.ntmps18
    go_wp2_with (first | (refine (fits_calls _ _).mono ?_; rintro e w' ⟨rfl, rfl⟩) | (refine (size_calls _ _ (by omega) (by omega)).mono ?_; rintro e w' ⟨rfl, rfl⟩; first | rw [HU.out] | rw [HV.out]))
    go_ret2
    exact ⟨rfl, rfl⟩
theorem mulsmall_calls (a b : Int) (w : World) (ha : sm a = true) (hb : sm b = true) (r : Bool) (hr : pm a b = r) : Calls Try.prog 20 #[.int .i64 a, .int .i64 b] w fun e w' => e = .returned (.bool r) ∧ w = w' := by
  obtain ⟨a1, a2⟩ := sm_of ha
  obtain ⟨b1, b2⟩ := sm_of hb
  by_cases h0 : a = 0
  · subst h0
    rw [pm_zero] at hr
    subst hr
    clear ha hb
    go_enter Try.func20, Try.ntmps20
    go_wp2
    go_ret
    exact ⟨rfl, rfl⟩
  by_cases h1 : b = 0
  · subst h1
    have : pm a 0 = true := by simp [pm]
    rw [this] at hr
    subst hr
    have hz : ((a : Int) == 0) = false := by simpa using h0
    clear ha hb this h0
    go_enter Try.func20, Try.ntmps20
    go_wp2
    go_ret
    exact ⟨rfl, rfl⟩
  have hz : ((a : Int) == 0) = false := by simpa using h0
  have hz1 : ((b : Int) == 0) = false := by simpa using h1
  have hd := pm_div (b := b) h0
  have q1 : 0 < (a.natAbs : Int) := by omega
  obtain ⟨u, hu⟩ : ∃ u : Nat, a.natAbs = u := ⟨_, rfl⟩
  obtain ⟨v, hv⟩ : ∃ v : Nat, b.natAbs = v := ⟨_, rfl⟩
  rw [hu] at q1
  rw [hu, hv] at hd
  have HU := Lib.hid hu
  have HV := Lib.hid hv
  have hu1 : (u : Int) ≤ 9007199254740992 := by omega
  clear hu hv
  have hle : decide ((v : Int) ≤ 9007199254740992 / (u : Int)) = r := by
    subst hr
    rw [Bool.eq_iff_iff, decide_eq_true_iff]; exact hd.symm
  have HLE := Lib.hid hle
  clear hd hr h0 h1 ha hb hle
  go_enter Try.func20, Try.ntmps20
  go_wp2_with (refine (rsize_calls _ _ (by omega) (by omega)).mono ?_; rintro e w' ⟨rfl, rfl⟩; first | rw [HU.out] | rw [HV.out])
  go_ret
  exact ⟨ret_b HLE.out, rfl⟩
end Go.Proofs.Ytlgdkpiaibhpjaa

/- Package num, walked: sums, products, quotients; sides; whole numbers below and above. -/
import Derived.Test.YtlgdkpiaibhpjaaNuB
namespace Go.Proofs.Ytlgdkpiaibhpjaa
open Go.RowKit Fl
set_option linter.unusedVariables false
theorem wf_f64 {z : Nat} (h : (Lit.float .f64 z).wf = true) : z < 18446744073709551616 := by simpa [Lit.wf] using h
theorem bits_lt {op : BinOp} {a b z : Nat} (h : floatBits op .f64 a b = some z) : z < 18446744073709551616 := wf_f64 (floatBits_wf h)
theorem add_calls (a b z : Nat) (w : World) (h : floatBits .add .f64 a b = some z) : Calls Try.prog 21 #[.float .f64 a, .float .f64 b] w fun e w' => e = .returned (.tuple #[.float .f64 (rs z).1, .int .i64 (rs z).2]) ∧ w = w' := by
  have hz := Lib.hid (bits_lt h)
  have hop : ∀ t w, (binOp .add t (.float .f64 a) (.float .f64 b)).run Try.prog w = .ok (.float .f64 z) w := fun t w => run_float_arith w .add t .f64 a b z h
  clear h
  go_enter Try.func21, Try.ntmps21
  go_wp2_with (refine (result_calls _ _ hz.out).mono ?_; rintro e w' ⟨rfl, rfl⟩)
  go_ret2
  exact ⟨rfl, rfl⟩
theorem sub_calls (a b z : Nat) (w : World) (h : floatBits .sub .f64 a b = some z) : Calls Try.prog 22 #[.float .f64 a, .float .f64 b] w fun e w' => e = .returned (.tuple #[.float .f64 (rs z).1, .int .i64 (rs z).2]) ∧ w = w' := by
  have hz := Lib.hid (bits_lt h)
  have hop : ∀ t w, (binOp .sub t (.float .f64 a) (.float .f64 b)).run Try.prog w = .ok (.float .f64 z) w := fun t w => run_float_arith w .sub t .f64 a b z h
  clear h
  go_enter Try.func22, Try.ntmps22
  go_wp2_with (refine (result_calls _ _ hz.out).mono ?_; rintro e w' ⟨rfl, rfl⟩)
  go_ret2
  exact ⟨rfl, rfl⟩
theorem mul_calls (a b z : Nat) (w : World) (h : floatBits .mul .f64 a b = some z) : Calls Try.prog 23 #[.float .f64 a, .float .f64 b] w fun e w' => e = .returned (.tuple #[.float .f64 (rs z).1, .int .i64 (rs z).2]) ∧ w = w' := by
  have hz := Lib.hid (bits_lt h)
  have hop : ∀ t w, (binOp .mul t (.float .f64 a) (.float .f64 b)).run Try.prog w = .ok (.float .f64 z) w := fun t w => run_float_arith w .mul t .f64 a b z h
  clear h
  go_enter Try.func23, Try.ntmps23
  go_wp2_with (refine (result_calls _ _ hz.out).mono ?_; rintro e w' ⟨rfl, rfl⟩)
  go_ret2
  exact ⟨rfl, rfl⟩
/-- What a quotient comes to. -/
theorem div_calls (a b z : Nat) (w : World) (hb : Fnt b) (h0 : V b ≠ 0) (h : floatBits .quo .f64 a b = some z) : Calls Try.prog 24 #[.float .f64 a, .float .f64 b] w fun e w' => e = .returned (.tuple #[.float .f64 (rs z).1, .int .i64 (rs z).2]) ∧ w = w' := by
  have hz := Lib.hid (bits_lt h)
  have hop : ∀ t w, (binOp .quo t (.float .f64 a) (.float .f64 b)).run Try.prog w = .ok (.float .f64 z) w := fun t w => run_float_arith w .quo t .f64 a b z h
  have ho : FloatKind.f64.format.order b 0 = some .lt ∨ FloatKind.f64.format.order b 0 = some .gt := ord_ne hb fin_zero (by rw [V_zero]; exact h0)
  clear h hb h0
  rcases ho with ho | ho
  all_goals
    go_enter Try.func24, Try.ntmps24
    go_wp2_with (refine (result_calls _ _ hz.out).mono ?_; rintro e w' ⟨rfl, rfl⟩)
    go_ret2
    exact ⟨rfl, rfl⟩
theorem div_zero (a : Nat) (w : World) (ha : Fnt a) (h0 : V a ≠ 0) : Calls Try.prog 24 #[.float .f64 a, .float .f64 0] w fun e w' => e = .returned (.tuple #[.float .f64 0, .int .i64 24]) ∧ w = w' := by
  have ho : FloatKind.f64.format.order a 0 = some .lt ∨ FloatKind.f64.format.order a 0 = some .gt := ord_ne ha fin_zero (by rw [V_zero]; exact h0)
  have h1 : FloatKind.f64.format.order 0 0 = some .eq := by decide
  clear ha h0
  rcases ho with ho | ho
  all_goals
    go_enter Try.func24, Try.ntmps24
    go_wp2
    go_ret2
    exact ⟨rfl, rfl⟩
theorem div_none (w : World) : Calls Try.prog 24 #[.float .f64 0, .float .f64 0] w fun e w' => e = .returned (.tuple #[.float .f64 4607182418800017408, .int .i64 0]) ∧ w = w' := by
  have h1 : FloatKind.f64.format.order 0 0 = some .eq := by decide
  go_enter Try.func24, Try.ntmps24
  go_wp2
  go_ret2
  exact ⟨rfl, rfl⟩
theorem reckon_add (a b z : Nat) (w : World) (h : floatBits .add .f64 a b = some z) : Calls Try.prog 25 #[.int .i64 0, .float .f64 a, .float .f64 b] w fun e w' => e = .returned (.tuple #[.float .f64 (rs z).1, .int .i64 (rs z).2]) ∧ w = w' := by
  have hz := Lib.hid (bits_lt h)
  have hop : ∀ t w, (binOp .add t (.float .f64 a) (.float .f64 b)).run Try.prog w = .ok (.float .f64 z) w := fun t w => run_float_arith w .add t .f64 a b z h
  clear h
  go_enter Try.func25, Try.ntmps25
  go_wp2_with (refine (done_calls _ _ hz.out).mono ?_; rintro e w' ⟨rfl, rfl⟩)
  go_ret2
  exact ⟨rfl, rfl⟩
theorem reckon_sub (a b z : Nat) (w : World) (h : floatBits .sub .f64 a b = some z) : Calls Try.prog 25 #[.int .i64 1, .float .f64 a, .float .f64 b] w fun e w' => e = .returned (.tuple #[.float .f64 (rs z).1, .int .i64 (rs z).2]) ∧ w = w' := by
  have hz := Lib.hid (bits_lt h)
  have hop : ∀ t w, (binOp .sub t (.float .f64 a) (.float .f64 b)).run Try.prog w = .ok (.float .f64 z) w := fun t w => run_float_arith w .sub t .f64 a b z h
  clear h
  go_enter Try.func25, Try.ntmps25
  go_wp2_with (refine (done_calls _ _ hz.out).mono ?_; rintro e w' ⟨rfl, rfl⟩)
  go_ret2
  exact ⟨rfl, rfl⟩
theorem reckon_mul (a b z : Nat) (w : World) (h : floatBits .mul .f64 a b = some z) : Calls Try.prog 25 #[.int .i64 2, .float .f64 a, .float .f64 b] w fun e w' => e = .returned (.tuple #[.float .f64 (rs z).1, .int .i64 (rs z).2]) ∧ w = w' := by
  have hz := Lib.hid (bits_lt h)
  have hop : ∀ t w, (binOp .mul t (.float .f64 a) (.float .f64 b)).run Try.prog w = .ok (.float .f64 z) w := fun t w => run_float_arith w .mul t .f64 a b z h
  clear h
  go_enter Try.func25, Try.ntmps25
  go_wp2_with (refine (done_calls _ _ hz.out).mono ?_; rintro e w' ⟨rfl, rfl⟩)
  go_ret2
  exact ⟨rfl, rfl⟩
theorem reckon_quo (a b z : Nat) (w : World) (ha : Fnt a) (hb : Fnt b) (h0 : V b ≠ 0) (h : floatBits .quo .f64 a b = some z) : Calls Try.prog 25 #[.int .i64 3, .float .f64 a, .float .f64 b] w fun e w' => e = .returned (.tuple #[.float .f64 (rs z).1, .int .i64 (rs z).2]) ∧ w = w' := by
  have hz := Lib.hid (bits_lt h)
  have hop : ∀ t w, (binOp .quo t (.float .f64 a) (.float .f64 b)).run Try.prog w = .ok (.float .f64 z) w := fun t w => run_float_arith w .quo t .f64 a b z h
  have ho : FloatKind.f64.format.order b 0 = some .lt ∨ FloatKind.f64.format.order b 0 = some .gt := ord_ne hb fin_zero (by rw [V_zero]; exact h0)
  have ho2 : FloatKind.f64.format.order a 0 = some .lt ∨ FloatKind.f64.format.order a 0 = some .eq ∨ FloatKind.f64.format.order a 0 = some .gt := by
    rcases ord_cases ha fin_zero with h | h | h
    · exact .inl h.2
    · exact .inr (.inl h.2)
    · exact .inr (.inr h.2)
  clear h hb h0 ha
  rcases ho with ho | ho <;> rcases ho2 with ho2 | ho2 | ho2
  all_goals
    go_enter Try.func25, Try.ntmps25
    go_wp2_with (refine (done_calls _ _ hz.out).mono ?_; rintro e w' ⟨rfl, rfl⟩)
    go_ret2
    exact ⟨rfl, rfl⟩
theorem reckon_zero (a : Nat) (w : World) (ha : Fnt a) (h0 : V a ≠ 0) : Calls Try.prog 25 #[.int .i64 3, .float .f64 a, .float .f64 0] w fun e w' => e = .returned (.tuple #[.float .f64 0, .int .i64 24]) ∧ w = w' := by
  have ho : FloatKind.f64.format.order a 0 = some .lt ∨ FloatKind.f64.format.order a 0 = some .gt := ord_ne ha fin_zero (by rw [V_zero]; exact h0)
  have h1 : FloatKind.f64.format.order 0 0 = some .eq := by decide
  clear ha h0
  rcases ho with ho | ho
  all_goals
    go_enter Try.func25, Try.ntmps25
    go_wp2
    go_ret2
    exact ⟨rfl, rfl⟩
theorem reckon_none (w : World) : Calls Try.prog 25 #[.int .i64 3, .float .f64 0, .float .f64 0] w fun e w' => e = .returned (.tuple #[.float .f64 4607182418800017408, .int .i64 0]) ∧ w = w' := by
  have h1 : FloatKind.f64.format.order 0 0 = some .eq := by decide
  go_enter Try.func25, Try.ntmps25
  go_wp2
  go_ret2
  exact ⟨rfl, rfl⟩
theorem flag_calls (b : Bool) (w : World) : Calls Try.prog 31 #[.bool b] w fun e w' => e = .returned (.float .f64 (if b then 4607182418800017408 else 0)) ∧ w = w' := by
  cases b
  all_goals
    go_enter Try.func31, Try.ntmps31
    go_wp2
    go_ret
    exact ⟨rfl, rfl⟩
theorem abs2_calls (x : Nat) (w : World) (h : x < 18446744073709551616) : Calls Try.prog 30 #[.float .f64 x] w fun e w' => e = .returned (.float .f64 (x % 9223372036854775808)) ∧ w = w' := by
  go_enter Try.func30, Try.ntmps30
  go_wp2_with (refine (abs_calls _ _ h).mono ?_; rintro e w' ⟨rfl, rfl⟩)
  go_ret
  exact ⟨rfl, rfl⟩
/-- The sign of a value, as a word. -/
def sgw (v : Int) : Nat := if v < 0 then 13830554455654793216 else if v = 0 then 0 else 4607182418800017408
theorem sign_calls (x : Nat) (w : World) (h : Fnt x) : Calls Try.prog 29 #[.float .f64 x] w fun e w' => e = .returned (.float .f64 (sgw (V x))) ∧ w = w' := by
  have s1 : ∀ t w, (binOp .sub t (.float .f64 4607182418800017408) (.float .f64 0)).run Try.prog w = .ok (.float .f64 4607182418800017408) w := fun t w => run_float_arith w .sub t .f64 _ _ _ (by kernel_rfl)
  have s2 : ∀ t w, (binOp .sub t (.float .f64 0) (.float .f64 4607182418800017408)).run Try.prog w = .ok (.float .f64 13830554455654793216) w := fun t w => run_float_arith w .sub t .f64 _ _ _ (by kernel_rfl)
  have s3 : ∀ t w, (binOp .sub t (.float .f64 0) (.float .f64 0)).run Try.prog w = .ok (.float .f64 0) w := fun t w => run_float_arith w .sub t .f64 _ _ _ (by kernel_rfl)
  have key : (FloatKind.f64.format.order x 0 = some .lt ∧ sgw (V x) = 13830554455654793216) ∨ (FloatKind.f64.format.order x 0 = some .eq ∧ sgw (V x) = 0) ∨ (FloatKind.f64.format.order x 0 = some .gt ∧ sgw (V x) = 4607182418800017408) := by
    rcases ord_cases h fin_zero with h | h | h
    · exact .inl ⟨h.2, if_pos (by have := h.1; rwa [V_zero] at this)⟩
    · exact .inr (.inl ⟨h.2, by have := h.1; rw [V_zero] at this; rw [this]; rfl⟩)
    · exact .inr (.inr ⟨h.2, by have := h.1; rw [V_zero] at this; unfold sgw; rw [if_neg (by omega), if_neg (by omega)]⟩)
  rcases key with ⟨ho, hs⟩ | ⟨ho, hs⟩ | ⟨ho, hs⟩
  all_goals
    have HS := Lib.hid hs
    clear hs h
    go_enter Try.func29, Try.ntmps29
    go_wp2_with (refine (flag_calls _ _).mono ?_; rintro e w' ⟨rfl, rfl⟩)
    go_ret
    exact ⟨ret_f HS.out.symm, rfl⟩
theorem truth_calls (x : Nat) (w : World) (h : Fnt x) : Calls Try.prog 26 #[.float .f64 x] w fun e w' => e = .returned (.tuple #[.bool (decide (V x = pw 1074)), .bool (decide (V x = 0) || decide (V x = pw 1074))]) ∧ w = w' := by
  have hp := pw_pos 1074
  have key : (FloatKind.f64.format.order x 0 = some .eq ∧ FloatKind.f64.format.order x 4607182418800017408 = some .lt ∧ V x = 0 ∧ V x ≠ pw 1074)
     ∨ ((FloatKind.f64.format.order x 0 = some .gt ∨ FloatKind.f64.format.order x 0 = some .lt) ∧ (FloatKind.f64.format.order x 4607182418800017408 = some .lt ∨ FloatKind.f64.format.order x 4607182418800017408 = some .gt) ∧ V x ≠ 0 ∧ V x ≠ pw 1074)
     ∨ (FloatKind.f64.format.order x 0 = some .gt ∧ FloatKind.f64.format.order x 4607182418800017408 = some .eq ∧ V x ≠ 0 ∧ V x = pw 1074) := by
    have a := ord_cases h fin_zero
    have b := ord_cases h one_fin
    rw [V_zero] at a
    rw [V_one] at b
    rcases a with ⟨a1, a2⟩ | ⟨a1, a2⟩ | ⟨a1, a2⟩ <;> rcases b with ⟨b1, b2⟩ | ⟨b1, b2⟩ | ⟨b1, b2⟩ <;> first
      | omega
      | exact .inl ⟨a2, b2, by omega, by omega⟩
      | exact .inr (.inr ⟨a2, b2, by omega, by omega⟩)
      | exact .inr (.inl ⟨by first | exact .inl a2 | exact .inr a2, by first | exact .inl b2 | exact .inr b2, by omega, by omega⟩)
  clear h hp
  rcases key with ⟨h1, h2, h3, h4⟩ | ⟨h1 | h1, h2 | h2, h3, h4⟩ | ⟨h1, h2, h3, h4⟩
  all_goals
    have H3 := Lib.hid (show decide (V x = 0) = _ from by first | exact decide_eq_true h3 | exact decide_eq_false h3)
    have H4 := Lib.hid (show decide (V x = (pw 1074 : Int)) = _ from by first | exact decide_eq_true h4 | exact decide_eq_false h4)
    rw [H3.out, H4.out]
    clear h3 h4
    go_enter Try.func26, Try.ntmps26
    go_wp2
    go_ret2
    exact ⟨rfl, rfl⟩
/-- The greater and the lesser one of two words. -/
def mxw (x y : Nat) : Nat := if V x < V y then y else x
def mnw (x y : Nat) : Nat := if V y < V x then y else x
theorem max_calls (x y : Nat) (w : World) (hx : Num x) (hy : Num y) : Calls Try.prog 27 #[.float .f64 x, .float .f64 y] w fun e w' => e = .returned (.float .f64 (mxw x y)) ∧ w = w' := by
  have hop : ∀ ts t w, (Builtin.max_ ts t #[.float .f64 x, .float .f64 y]).run Try.prog w = .ok (.float .f64 (mxw x y)) w := by
    intro ts t w
    rcases ord_cases hx.1 hy.1 with ⟨h1, h2⟩ | ⟨h1, h2⟩ | ⟨h1, h2⟩
    · have h2 : FloatKind.f64.format.order x y = _ := h2
      simp [Builtin.max_, Builtin.max2, h2, mxw, h1]
    · have h2 : FloatKind.f64.format.order x y = _ := h2
      have h3 := V_inj hx hy h1
      subst h3
      simp [Builtin.max_, Builtin.max2, h2, mxw]
    · have h2 : FloatKind.f64.format.order x y = _ := h2
      have h3 : ¬ V x < V y := by omega
      simp [Builtin.max_, Builtin.max2, h2, mxw, h3]
  clear hx hy
  go_enter Try.func27, Try.ntmps27
  go_wp2
  go_ret
  exact ⟨rfl, rfl⟩
theorem min_calls (x y : Nat) (w : World) (hx : Num x) (hy : Num y) : Calls Try.prog 28 #[.float .f64 x, .float .f64 y] w fun e w' => e = .returned (.float .f64 (mnw x y)) ∧ w = w' := by
  have hop : ∀ ts t w, (Builtin.min_ ts t #[.float .f64 x, .float .f64 y]).run Try.prog w = .ok (.float .f64 (mnw x y)) w := by
    intro ts t w
    rcases ord_cases hx.1 hy.1 with ⟨h1, h2⟩ | ⟨h1, h2⟩ | ⟨h1, h2⟩
    · have h2 : FloatKind.f64.format.order x y = _ := h2
      have h3 : ¬ V y < V x := by omega
      simp [Builtin.min_, Builtin.min2, h2, mnw, h3]
    · have h2 : FloatKind.f64.format.order x y = _ := h2
      have h3 := V_inj hx hy h1
      subst h3
      simp [Builtin.min_, Builtin.min2, h2, mnw]
    · have h2 : FloatKind.f64.format.order x y = _ := h2
      simp [Builtin.min_, Builtin.min2, h2, mnw, h1]
  clear hx hy
  go_enter Try.func28, Try.ntmps28
  go_wp2
  go_ret
  exact ⟨rfl, rfl⟩
theorem run_floor (x : Nat) (hx : Fnt x) (w : World) : (Extern.MathFloor.toIntegral "math.archFloor" .down #[.float .f64 x]).run Try.prog w = .ok (.float .f64 (fl x)) w := by
  rw [run_integral _ _ _ (by decide) x hx, cut_down', fl]
theorem run_ceil (x : Nat) (hx : Fnt x) (w : World) : (Extern.MathFloor.toIntegral "math.archCeil" .up #[.float .f64 x]).run Try.prog w = .ok (.float .f64 (cl x)) w := by
  rw [run_integral _ _ _ (by decide) x hx, cut_up', cl]
theorem mfloor_calls (x : Nat) (w : World) (hx : Fnt x) : Calls Try.prog 53 #[.float .f64 x] w fun e w' => e = .returned (.float .f64 (fl x)) ∧ w = w' := by
  have x1 := @run_callFunc_extern Try.prog 60 _ (Extern.MathFloor.toIntegral "math.archFloor" .down) Try.func60 (by kernel_rfl) (by kernel_rfl) (by kernel_rfl) (by kernel_rfl)
  have x2 := run_floor x hx
  go_enter Try.func53, Try.ntmps53
  go_wp2
  go_ret
  exact ⟨rfl, rfl⟩
theorem mceil_calls (x : Nat) (w : World) (hx : Fnt x) : Calls Try.prog 54 #[.float .f64 x] w fun e w' => e = .returned (.float .f64 (cl x)) ∧ w = w' := by
  have x1 := @run_callFunc_extern Try.prog 62 _ (Extern.MathFloor.toIntegral "math.archCeil" .up) Try.func62 (by kernel_rfl) (by kernel_rfl) (by kernel_rfl) (by kernel_rfl)
  have x2 := run_ceil x hx
  go_enter Try.func54, Try.ntmps54
  go_wp2
  go_ret
  exact ⟨rfl, rfl⟩
theorem floor_calls (x : Nat) (w : World) (hx : Fnt x) : Calls Try.prog 32 #[.float .f64 x] w fun e w' => e = .returned (.float .f64 (fl x)) ∧ w = w' := by
  have HX := Lib.hid hx
  clear hx
  go_enter Try.func32, Try.ntmps32
  go_wp2_with (refine (mfloor_calls _ _ HX.out).mono ?_; rintro e w' ⟨rfl, rfl⟩)
  go_ret
  exact ⟨rfl, rfl⟩
theorem ceil_calls (x : Nat) (w : World) (hx : Num x) : Calls Try.prog 34 #[.float .f64 x] w fun e w' => e = .returned (.float .f64 (ze (cl x))) ∧ w = w' := by
  have HX := Lib.hid hx
  clear hx
  go_enter Try.func34, Try.ntmps34
  go_wp2_with (first | (refine (mceil_calls _ _ HX.out.1).mono ?_; rintro e w' ⟨rfl, rfl⟩) | (refine (unsigned_calls _ _ (cl_spec HX.out).1).mono ?_; rintro e w' ⟨rfl, rfl⟩))
  go_ret
  exact ⟨rfl, rfl⟩
/-- Whole steps of a value. -/
theorem tdiv_floor (v : Int) (t : Nat) (ht : 0 < t) : (v < v.tdiv t * t → v / (t : Int) = v.tdiv t - 1) ∧ (v.tdiv t * t ≤ v → v / (t : Int) = v.tdiv t) := by
  have hd := div_parts v t ht
  by_cases hv : v < 0
  · obtain ⟨m, rfl⟩ : ∃ m : Nat, v = -(m : Int) := ⟨v.natAbs, by omega⟩
    have e : (-(m : Int)).tdiv t = -((m / t : Nat) : Int) := by rw [Int.neg_tdiv]; simp
    rw [if_pos hv, Int.natAbs_neg, Int.natAbs_natCast] at hd
    rw [hd, e]
    have h1 := Nat.div_add_mod m t
    generalize m / t = q at *
    generalize m % t = r at *
    have h3 : (m : Int) = t * q + r := by exact_mod_cast h1.symm
    rw [h3, Int.neg_mul, Int.mul_comm (q : Int)]
    generalize (t : Int) * q = z
    constructor
    · intro h
      rw [if_neg (by omega)]; omega
    · intro h
      rw [if_pos (by omega)]; omega
  · obtain ⟨m, rfl⟩ : ∃ m : Nat, v = (m : Int) := ⟨v.natAbs, by omega⟩
    have e : (m : Int).tdiv t = ((m / t : Nat) : Int) := by simp
    rw [if_neg hv, Int.natAbs_natCast] at hd
    rw [hd, e]
    have h1 := Nat.div_mul_le_self m t
    have h2 : ((m / t : Nat) : Int) * (t : Int) ≤ (m : Int) := by exact_mod_cast h1
    exact ⟨fun h => by omega, fun _ => rfl⟩
theorem rfloor_calls (x : Nat) (w : World) (hx : Num x) : Calls Try.prog 33 #[.float .f64 x] w fun e w' => e = .returned (.float .f64 (fl x)) ∧ w = w' := by
  obtain ⟨hfn, hfv⟩ := fl_spec hx
  have hpI : (0 : Int) < pw 1074 := by exact_mod_cast pw_pos 1074
  have a := ord_cases hx.1 top_fin
  have b := ord_cases hx.1 bot_fin
  rw [V_top] at a
  rw [V_bot] at b
  by_cases hbig : 9007199254740992 * (pw 1074 : Int) ≤ V x ∨ V x ≤ -(9007199254740992 * (pw 1074 : Int))
  · have hfx : Hid (fl x = x) := Lib.hid (by
      have h0 := big_whole (x := x) (by omega)
      unfold fl; rw [h0]; simpa using whole_stays hx.1 h0)
    have key : (FloatKind.f64.format.order x 4845873199050653696 = some .eq) ∨ (FloatKind.f64.format.order x 4845873199050653696 = some .gt) ∨ (FloatKind.f64.format.order x 4845873199050653696 = some .lt ∧ (FloatKind.f64.format.order x 14069245235905429504 = some .lt ∨ FloatKind.f64.format.order x 14069245235905429504 = some .eq)) := by
      rcases a with ⟨a1, a2⟩ | ⟨a1, a2⟩ | ⟨a1, a2⟩
      · refine .inr (.inr ⟨a2, ?_⟩)
        rcases b with ⟨b1, b2⟩ | ⟨b1, b2⟩ | ⟨b1, b2⟩
        · exact .inl b2
        · exact .inr b2
        · omega
      · exact .inl a2
      · exact .inr (.inl a2)
    clear a b hx hfn hfv hbig hpI
    rcases key with h1 | h1 | ⟨h1, h2 | h2⟩
    all_goals
      go_enter Try.func33, Try.ntmps33
      go_wp2
      go_ret
      exact ⟨ret_f hfx.out.symm, rfl⟩
  · have h1 : FloatKind.f64.format.order x 4845873199050653696 = some .lt := by
      rcases a with ⟨a1, a2⟩ | ⟨a1, a2⟩ | ⟨a1, a2⟩ <;> first | exact a2 | omega
    have h2 : FloatKind.f64.format.order x 14069245235905429504 = some .gt := by
      rcases b with ⟨a1, a2⟩ | ⟨a1, a2⟩ | ⟨a1, a2⟩ <;> first | exact a2 | omega
    obtain ⟨n, hn1, hn2, hn3⟩ := int_of x hx.1 (by omega)
    have hc : ∀ w, (convert 22 2 (.float .f64 x)).run Try.prog w = .ok (.int .i64 n) w := fun w => run_convert_float_int w 22 2 .f64 .i64 x n (by kernel_rfl) (by kernel_rfl) hn1
    have hc2 : ∀ w, (convert 2 22 (.int .i64 n)).run Try.prog w = .ok (.float .f64 (floatOfInt .f64 n)) w := fun w => run_convert_int_float w 2 22 .i64 .f64 n (by kernel_rfl) (by kernel_rfl)
    have hof := ofInt_fin n (by omega)
    have hov := ofInt_val n hn2
    have hsteps := tdiv_floor (V x) (pw 1074) (pw_pos 1074)
    rw [← hn3] at hsteps
    rcases ord_cases hof hx.1 with ⟨h3, h4⟩ | ⟨h3, h4⟩ | ⟨h3, h4⟩
    · have h4 : FloatKind.f64.format.order (floatOfInt .f64 n) x = _ := h4
      rw [hov] at h3
      have hz := add_zero hof
      have hop : ∀ t w, (binOp .add t (.float .f64 (floatOfInt .f64 n)) (.float .f64 0)).run Try.prog w = .ok (.float .f64 (ze (floatOfInt .f64 n))) w := fun t w => run_float_arith w .add t .f64 _ _ _ hz
      have hr : Hid (ze (floatOfInt .f64 n) = fl x) := Lib.hid (V_inj (ze_num hof) hfn (by rw [ze_val, hov, hfv, hsteps.2 (by omega)]))
      clear a b hx hfn hfv hbig hpI hn1 hn2 hn3 hof hov hsteps h3 hz
      go_enter Try.func33, Try.ntmps33
      go_wp2
      go_ret
      exact ⟨ret_f hr.out, rfl⟩
    · have h4 : FloatKind.f64.format.order (floatOfInt .f64 n) x = _ := h4
      rw [hov] at h3
      have hz := add_zero hof
      have hop : ∀ t w, (binOp .add t (.float .f64 (floatOfInt .f64 n)) (.float .f64 0)).run Try.prog w = .ok (.float .f64 (ze (floatOfInt .f64 n))) w := fun t w => run_float_arith w .add t .f64 _ _ _ hz
      have hr : Hid (ze (floatOfInt .f64 n) = fl x) := Lib.hid (V_inj (ze_num hof) hfn (by rw [ze_val, hov, hfv, hsteps.2 (by omega)]))
      clear a b hx hfn hfv hbig hpI hn1 hn2 hn3 hof hov hsteps h3 hz
      go_enter Try.func33, Try.ntmps33
      go_wp2
      go_ret
      exact ⟨ret_f hr.out, rfl⟩
    · have h4 : FloatKind.f64.format.order (floatOfInt .f64 n) x = _ := h4
      rw [hov] at h3
      have hdv := hsteps.1 h3
      have hn4 : (n - 1).natAbs ≤ 9007199254740992 := by
        have h5 : V x / (pw 1074 : Int) = n - 1 := hdv
        have h6 : -9007199254740992 ≤ V x / (pw 1074 : Int) := (Int.le_ediv_iff_mul_le hpI).2 (by rw [Int.neg_mul]; omega)
        omega
      obtain ⟨s, hs, hsn, hsv⟩ : ∃ s, floatBits .sub .f64 (floatOfInt .f64 n) 4607182418800017408 = some s ∧ Fnt s ∧ V s = (n - 1) * pw 1074 := by
        have e := sub_fin hof one_fin
        have ev : V (floatOfInt .f64 n) - V 4607182418800017408 = (n - 1) * pw 1074 := by rw [hov, V_one, Int.sub_mul, Int.one_mul]
        rw [ev] at e
        have ea : ((n - 1) * (pw 1074 : Int)).natAbs = (n - 1).natAbs * pw 1074 := by rw [Int.natAbs_mul]; simp
        obtain ⟨r, r1, r2⟩ := whole_rung (n - 1).natAbs 1074 (by decide) hn4
        refine ⟨_, e, ?_⟩
        rw [ea]
        obtain ⟨q1, q2⟩ := nearest_rung (if (n - 1) * (pw 1074 : Int) = 0 then sg (floatOfInt .f64 n) && !sg 4607182418800017408 else decide ((n - 1) * (pw 1074 : Int) < 0)) _ r r1 r2
        refine ⟨q1, ?_⟩
        rw [q2, ← ea]
        generalize (n - 1) * (pw 1074 : Int) = y
        by_cases y0 : y = 0
        · subst y0; simp
        · by_cases y1 : y < 0 <;> simp [y0, y1] <;> omega
      have hz := add_zero hsn
      have hop1 : ∀ t w, (binOp .sub t (.float .f64 (floatOfInt .f64 n)) (.float .f64 4607182418800017408)).run Try.prog w = .ok (.float .f64 s) w := fun t w => run_float_arith w .sub t .f64 _ _ _ hs
      have hop : ∀ t w, (binOp .add t (.float .f64 s) (.float .f64 0)).run Try.prog w = .ok (.float .f64 (ze s)) w := fun t w => run_float_arith w .add t .f64 _ _ _ hz
      have hr : Hid (ze s = fl x) := Lib.hid (V_inj (ze_num hsn) hfn (by rw [ze_val, hsv, hfv, hdv]))
      clear a b hx hfn hfv hbig hpI hn1 hn2 hn3 hof hov hsteps h3 hz hs hsn hsv hdv hn4
      go_enter Try.func33, Try.ntmps33
      go_wp2
      go_ret
      exact ⟨ret_f hr.out, rfl⟩
theorem rceil_calls (x : Nat) (w : World) (hx : Num x) : Calls Try.prog 35 #[.float .f64 x] w fun e w' => e = .returned (.float .f64 (ze (cl x))) ∧ w = w' := by
  obtain ⟨nx, h1, h2, h3⟩ := neg_word hx
  obtain ⟨hcn, hcv⟩ := cl_spec hx
  obtain ⟨hfn, hfv⟩ := fl_spec h2
  have hop1 : ∀ t w, (binOp .sub t (.float .f64 0) (.float .f64 x)).run Try.prog w = .ok (.float .f64 nx) w := fun t w => run_float_arith w .sub t .f64 _ _ _ h1
  have HN := Lib.hid h2
  by_cases h0 : V (fl nx) = 0
  · have ho : FloatKind.f64.format.order (fl nx) 0 = some .eq := ord_eq hfn.1 fin_zero (by rw [V_zero, h0])
    have hr : Hid (0 = ze (cl x)) := Lib.hid (V_inj ⟨fin_zero, fun _ => rfl⟩ (ze_num hcn) (by rw [ze_val, hcv, V_zero, ← h3, ← hfv, h0]; rfl))
    clear hx h1 h2 h3 hcn hcv hfn hfv h0
    go_enter Try.func35, Try.ntmps35
    go_wp2_with (refine (rfloor_calls _ _ HN.out).mono ?_; rintro e w' ⟨rfl, rfl⟩)
    go_ret
    exact ⟨ret_f hr.out, rfl⟩
  · have ho : FloatKind.f64.format.order (fl nx) 0 = some .lt ∨ FloatKind.f64.format.order (fl nx) 0 = some .gt := ord_ne hfn.1 fin_zero (by rw [V_zero]; exact h0)
    obtain ⟨z, h4, h5, h6⟩ := neg_word hfn
    have hop2 : ∀ t w, (binOp .sub t (.float .f64 0) (.float .f64 (fl nx))).run Try.prog w = .ok (.float .f64 z) w := fun t w => run_float_arith w .sub t .f64 _ _ _ h4
    have hr : Hid (z = ze (cl x)) := Lib.hid (V_inj h5 (ze_num hcn) (by rw [ze_val, hcv, h6, hfv, h3]))
    clear hx h1 h2 h3 hcn hcv hfn hfv h0 h4 h5 h6
    rcases ho with ho | ho
    all_goals
      go_enter Try.func35, Try.ntmps35
      go_wp2_with (refine (rfloor_calls _ _ HN.out).mono ?_; rintro e w' ⟨rfl, rfl⟩)
      go_ret
      exact ⟨ret_f hr.out, rfl⟩
end Go.Proofs.Ytlgdkpiaibhpjaa

/- Layer 3's laws, walked: NumWhole, NumSides. Written by a program of mine. -/
import Derived.Test.YtlgdkpiaibhpjaaNuG
namespace Go.Proofs.Ytlgdkpiaibhpjaa
open Go.RowKit Fl
set_option linter.unusedVariables false
theorem addint_any (a b : Int) (w : World) (ha : sm a = true) (hb : sm b = true) (r : Bool) (hr : sm (a + b) = r) : Calls Try.prog 16 #[.int .i64 a, .int .i64 b] w fun e w' => e = .returned (.tuple #[.int .i64 (if r then a + b else 0), .bool r]) ∧ w = w' := by
  cases r
  · exact addint_no3 a b w ha hb hr
  · exact addint_yes a b w ha hb hr
theorem subint_any (a b : Int) (w : World) (ha : sm a = true) (hb : sm b = true) (r : Bool) (hr : sm (a - b) = r) : Calls Try.prog 17 #[.int .i64 a, .int .i64 b] w fun e w' => e = .returned (.tuple #[.int .i64 (if r then a - b else 0), .bool r]) ∧ w = w' := by
  cases r
  · exact subint_no3 a b w ha hb hr
  · exact subint_yes a b w ha hb hr
theorem mulint_all (a b : Int) (w : World) (ha : sm a = true) (hb : sm b = true) (r : Bool) (hr : pm a b = r) : Calls Try.prog 18 #[.int .i64 a, .int .i64 b] w fun e w' => e = .returned (.tuple #[.int .i64 (if r then a * b else 0), .bool r]) ∧ w = w' := by
  by_cases h0 : a = 0
  · subst h0
    rw [pm_zero] at hr
    subst hr
    have := mulint_zero b w hb
    simpa using this
  · exact mulint_any a b w ha hb h0 r hr
theorem sgn_val (y : Int) (t : Nat) (s : Bool) (ht : 0 < t) : (if (if y * (t : Int) = 0 then s else decide (y * (t : Int) < 0)) = true then -((y.natAbs * t : Nat) : Int) else ((y.natAbs * t : Nat) : Int)) = y * t := by
  rcases Int.lt_trichotomy y 0 with h | h | h
  · obtain ⟨m, rfl⟩ : ∃ m : Nat, y = -(m : Int) := ⟨y.natAbs, by omega⟩
    have h1 : -(m : Int) * t < 0 := Int.mul_neg_of_neg_of_pos h (by omega)
    rw [if_neg (c := -(m : Int) * t = 0) (by omega), if_pos (by simpa using h1)]
    rw [Int.natAbs_neg, Int.natAbs_natCast, Int.neg_mul]; simp
  · subst h; simp
  · obtain ⟨m, rfl⟩ : ∃ m : Nat, y = (m : Int) := ⟨y.natAbs, by omega⟩
    have h1 : 0 < (m : Int) * t := Int.mul_pos h (by omega)
    rw [if_neg (c := (m : Int) * t = 0) (by omega), if_neg (by simp only [decide_eq_true_eq]; omega)]
    simp
theorem prod_val (a b : Int) (t : Nat) : (if (decide (a < 0) ^^ decide (b < 0)) = true then -((a.natAbs * b.natAbs * t : Nat) : Int) else ((a.natAbs * b.natAbs * t : Nat) : Int)) = a * b * t := by
  by_cases ha : a < 0
  · obtain ⟨m, rfl⟩ : ∃ m : Nat, a = -(m : Int) := ⟨a.natAbs, by omega⟩
    by_cases hb : b < 0
    · obtain ⟨n, rfl⟩ : ∃ n : Nat, b = -(n : Int) := ⟨b.natAbs, by omega⟩
      rw [decide_eq_true ha, decide_eq_true hb]; simp [Int.neg_mul, Int.mul_neg]
    · obtain ⟨n, rfl⟩ : ∃ n : Nat, b = (n : Int) := ⟨b.natAbs, by omega⟩
      rw [decide_eq_true ha, decide_eq_false hb]; simp [Int.neg_mul]
  · obtain ⟨m, rfl⟩ : ∃ m : Nat, a = (m : Int) := ⟨a.natAbs, by omega⟩
    by_cases hb : b < 0
    · obtain ⟨n, rfl⟩ : ∃ n : Nat, b = -(n : Int) := ⟨b.natAbs, by omega⟩
      rw [decide_eq_false ha, decide_eq_true hb]; simp [Int.neg_mul, Int.mul_neg]
    · obtain ⟨n, rfl⟩ : ∃ n : Nat, b = (n : Int) := ⟨b.natAbs, by omega⟩
      rw [decide_eq_false ha, decide_eq_false hb]; simp
/-- Sums and differences of whole numbers, done in floats. -/
theorem whole_sum {a b : Int} (ha : a.natAbs ≤ 9007199254740992) (hb : b.natAbs ≤ 9007199254740992) : ∃ z, Ieee.double.add (floatOfInt .f64 a) (floatOfInt .f64 b) = some z ∧ Fnt z ∧ ((a + b).natAbs ≤ 9007199254740992 → V z = (a + b) * pw 1074) := by
  have fa := ofInt_fin a (by omega)
  have fb := ofInt_fin b (by omega)
  have e := add_fin fa fb
  have ev : V (floatOfInt .f64 a) + V (floatOfInt .f64 b) = (a + b) * pw 1074 := by rw [ofInt_val a ha, ofInt_val b hb, Int.add_mul]
  rw [ev, Int.natAbs_mul, Int.natAbs_natCast, ← nearest_pw _ _ 0 1074 (by decide)] at e
  refine ⟨_, e, nearest_small _ _ _ ?_, fun h => ?_⟩
  · by_cases hz : (a + b).natAbs = 0
    · rw [hz]; decide
    · have := (Nat.log2_lt (k := 64) hz).2 (by omega)
      omega
  · rw [(nearest_whole _ _ h).2]
    exact sgn_val (a + b) (pw 1074) _ (pw_pos _)
theorem whole_diff {a b : Int} (ha : a.natAbs ≤ 9007199254740992) (hb : b.natAbs ≤ 9007199254740992) : ∃ z, Ieee.double.sub (floatOfInt .f64 a) (floatOfInt .f64 b) = some z ∧ Fnt z ∧ ((a - b).natAbs ≤ 9007199254740992 → V z = (a - b) * pw 1074) := by
  have fa := ofInt_fin a (by omega)
  have fb := ofInt_fin b (by omega)
  have e := sub_fin fa fb
  have ev : V (floatOfInt .f64 a) - V (floatOfInt .f64 b) = (a - b) * pw 1074 := by rw [ofInt_val a ha, ofInt_val b hb, Int.sub_mul]
  rw [ev, Int.natAbs_mul, Int.natAbs_natCast, ← nearest_pw _ _ 0 1074 (by decide)] at e
  refine ⟨_, e, nearest_small _ _ _ ?_, fun h => ?_⟩
  · by_cases hz : (a - b).natAbs = 0
    · rw [hz]; decide
    · have := (Nat.log2_lt (k := 64) hz).2 (by omega)
      omega
  · rw [(nearest_whole _ _ h).2]
    exact sgn_val (a - b) (pw 1074) _ (pw_pos _)
theorem nearest_pw2 (s : Bool) (m k : Nat) (p : Int) : Ieee.double.nearest s (m * pw k) (p - k) = Ieee.double.nearest s m p := nearest_scale Ieee.double s m k p
theorem whole_prod {a b : Int} (ha : a.natAbs ≤ 9007199254740992) (hb : b.natAbs ≤ 9007199254740992) : ∃ z, Ieee.double.mul (floatOfInt .f64 a) (floatOfInt .f64 b) = some z ∧ Fnt z ∧ ((a * b).natAbs ≤ 9007199254740992 → V z = (a * b) * pw 1074) := by
  have fa := ofInt_fin a (by omega)
  have fb := ofInt_fin b (by omega)
  have e := mul_fin fa fb
  have hm : (V (floatOfInt .f64 a)).natAbs * (V (floatOfInt .f64 b)).natAbs = (a.natAbs * b.natAbs) * pw 2148 := by
    rw [ofInt_val a ha, ofInt_val b hb, Int.natAbs_mul, Int.natAbs_mul, Int.natAbs_natCast, show pw 2148 = pw 1074 * pw 1074 from pw_add 1074 1074]
    generalize pw 1074 = t
    simp only [Nat.mul_assoc, Nat.mul_left_comm, Nat.mul_comm]
  rw [hm, show (-2148 : Int) = 0 - (2148 : Nat) by decide, nearest_pw2] at e
  have hbig : a.natAbs * b.natAbs ≤ 9007199254740992 * 9007199254740992 := Nat.mul_le_mul ha hb
  have sa : sg (floatOfInt .f64 a) = decide (a < 0) := nearest_sg _ _ _
  have sb : sg (floatOfInt .f64 b) = decide (b < 0) := nearest_sg _ _ _
  refine ⟨_, e, nearest_small _ _ _ ?_, fun h => ?_⟩
  · by_cases hz : a.natAbs * b.natAbs = 0
    · rw [hz]; decide
    · have := (Nat.log2_lt (k := 107) hz).2 (by omega)
      omega
  · rw [Int.natAbs_mul] at h
    rw [(nearest_whole _ _ h).2, sa, sb]
    exact prod_val a b (pw 1074)
set_option maxRecDepth 100000 in
set_option maxHeartbeats 4000000 in
theorem whole_law (a b : Int) (w : World) : Calls Try.prog 4 #[.int .i64 a, .int .i64 b] w (Drew w) := by
  obtain ⟨ra, ha⟩ : ∃ r, sm a = r := ⟨_, rfl⟩
  obtain ⟨rb, hb⟩ : ∃ r, sm b = r := ⟨_, rfl⟩
  have SA := Lib.hid ha
  have SB := Lib.hid hb
  cases ra
  · go_enter Try.func4, Try.ntmps4
    go_wp2_with (first | ((with_reducible refine (addint_no1 _ _ _ SA.out).mono ?_); rintro e w' ⟨rfl, rfl⟩) | ((with_reducible refine (subint_no1 _ _ _ SA.out).mono ?_); rintro e w' ⟨rfl, rfl⟩) | ((with_reducible refine (mulint_no1 _ _ _ SA.out).mono ?_); rintro e w' ⟨rfl, rfl⟩) | ((with_reducible refine (small_calls _ _).mono ?_); rintro e w' ⟨rfl, rfl⟩) | ((with_reducible refine (awake_calls _).mono ?_); rintro e w' ⟨rfl, m, rfl⟩))
    all_goals
      go_ret
      exact ⟨rfl, _, rfl⟩
  cases rb
  · go_enter Try.func4, Try.ntmps4
    go_wp2_with (first | ((with_reducible refine (addint_no2 _ _ _ SA.out SB.out).mono ?_); rintro e w' ⟨rfl, rfl⟩) | ((with_reducible refine (subint_no2 _ _ _ SA.out SB.out).mono ?_); rintro e w' ⟨rfl, rfl⟩) | ((with_reducible refine (mulint_no2 _ _ _ SA.out SB.out).mono ?_); rintro e w' ⟨rfl, rfl⟩) | ((with_reducible refine (small_calls _ _).mono ?_); rintro e w' ⟨rfl, rfl⟩) | ((with_reducible refine (awake_calls _).mono ?_); rintro e w' ⟨rfl, m, rfl⟩))
    all_goals
      go_ret
      exact ⟨rfl, _, rfl⟩
  obtain ⟨a1, a2⟩ := sm_of ha
  obtain ⟨b1, b2⟩ := sm_of hb
  obtain ⟨z1, hz1, f1, v1⟩ := whole_sum (a := a) (b := b) (by omega) (by omega)
  obtain ⟨z2, hz2, f2, v2⟩ := whole_diff (a := a) (b := b) (by omega) (by omega)
  obtain ⟨z3, hz3, f3, v3⟩ := whole_prod (a := a) (b := b) (by omega) (by omega)
  have Z1 : Hid (floatBits .add .f64 (floatOfInt .f64 a) (floatOfInt .f64 b) = some z1) := Lib.hid hz1
  have Z2 : Hid (floatBits .sub .f64 (floatOfInt .f64 a) (floatOfInt .f64 b) = some z2) := Lib.hid hz2
  have Z3 : Hid (floatBits .mul .f64 (floatOfInt .f64 a) (floatOfInt .f64 b) = some z3) := Lib.hid hz3
  have Q1 := Lib.hid (rs_fin f1)
  have Q2 := Lib.hid (rs_fin f2)
  have Q3 := Lib.hid (rs_fin f3)
  have hcv : ∀ n w, (convert 2 22 (.int .i64 n)).run Try.prog w = .ok (.float .f64 (floatOfInt .f64 n)) w := fun n w => run_convert_int_float w 2 22 .i64 .f64 n (by kernel_rfl) (by kernel_rfl)
  have o1 : sm (a + b) = true → FloatKind.f64.format.order (ze z1) (floatOfInt .f64 (a + b)) = some .eq := fun h => by
    have h := sm_of h
    exact ord_eq (ze_num f1).1 (ofInt_fin _ (by omega)) (by rw [ze_val, v1 (by omega), ofInt_val _ (by omega)])
  have o2 : sm (a - b) = true → FloatKind.f64.format.order (ze z2) (floatOfInt .f64 (a - b)) = some .eq := fun h => by
    have h := sm_of h
    exact ord_eq (ze_num f2).1 (ofInt_fin _ (by omega)) (by rw [ze_val, v2 (by omega), ofInt_val _ (by omega)])
  have o3 : pm a b = true → FloatKind.f64.format.order (ze z3) (floatOfInt .f64 (a * b)) = some .eq := fun h => by
    have h := pm_bound h
    exact ord_eq (ze_num f3).1 (ofInt_fin _ (by omega)) (by rw [ze_val, v3 (by omega), ofInt_val _ (by omega)])
  have p3 : pm a b = true → -9007199254740992 ≤ a * b ∧ a * b ≤ 9007199254740992 := pm_bound
  obtain ⟨r1, h1⟩ : ∃ r, sm (a + b) = r := ⟨_, rfl⟩
  obtain ⟨r2, h2⟩ : ∃ r, sm (a - b) = r := ⟨_, rfl⟩
  obtain ⟨r3, h3⟩ : ∃ r, pm a b = r := ⟨_, rfl⟩
  have R1 := Lib.hid h1
  have R2 := Lib.hid h2
  have R3 := Lib.hid h3
  clear hz1 hz2 hz3 f1 f2 f3 v1 v2 v3
  cases r1 <;> cases r2 <;> cases r3
  all_goals
    try have o1' := o1 h1
    try have o2' := o2 h2
    try have o3' := o3 h3
    try (have p45 := p3 h3; obtain ⟨p4, p5⟩ := p45)
    clear o1 o2 o3 p3 h3
    go_enter Try.func4, Try.ntmps4
    go_wp2_with (first | ((with_reducible refine (addint_any _ _ _ SA.out SB.out _ R1.out).mono ?_); rintro e w' ⟨rfl, rfl⟩) | ((with_reducible refine (subint_any _ _ _ SA.out SB.out _ R2.out).mono ?_); rintro e w' ⟨rfl, rfl⟩) | ((with_reducible refine (mulint_all _ _ _ SA.out SB.out _ R3.out).mono ?_); rintro e w' ⟨rfl, rfl⟩) | ((with_reducible refine (small_calls _ _).mono ?_); rintro e w' ⟨rfl, rfl⟩) | ((with_reducible refine (mulsmall_calls _ _ _ SA.out SB.out _ R3.out).mono ?_); rintro e w' ⟨rfl, rfl⟩) | ((with_reducible refine (add_calls _ _ _ _ Z1.out).mono ?_); rintro e w' ⟨rfl, rfl⟩; rw [Q1.out]) | ((with_reducible refine (sub_calls _ _ _ _ Z2.out).mono ?_); rintro e w' ⟨rfl, rfl⟩; rw [Q2.out]) | ((with_reducible refine (mul_calls _ _ _ _ Z3.out).mono ?_); rintro e w' ⟨rfl, rfl⟩; rw [Q3.out]) | ((with_reducible refine (awake_calls _).mono ?_); rintro e w' ⟨rfl, m, rfl⟩))
    go_ret
    exact ⟨rfl, _, rfl⟩
theorem whole_frame (w : World) (a : Int) (ha : (Lit.int .i64 a).wf = true) (b : Int) (hb : (Lit.int .i64 b).wf = true) : Calls Try.prog 4 #[.int .i64 a, .int .i64 b] w fun e w' => e = .returned (.bool true) ∧ Below w.heap.size w w' := (whole_law a b w).mono fun _ _ h => frame_of h
theorem mul_one' {x : Nat} (hx : Fnt x) : Ieee.double.mul x 4607182418800017408 = some x := by
  rw [mul_fin hx one_fin, V_one, Int.natAbs_natCast, show (-2148 : Int) = -1074 - (1074 : Nat) by decide, nearest_pw2]
  rw [show (sg x ^^ sg 4607182418800017408) = sg x by rw [show sg 4607182418800017408 = false from rfl, Bool.xor_false], V_abs]
  exact congrArg some (nearest_fin hx)
theorem mul_mone {x : Nat} (hx : Num x) (h0 : V x < 0) : Ieee.double.mul x 13830554455654793216 = some (x % 9223372036854775808) := by
  rw [mul_fin hx.1 neg_fin, V_mone, Int.natAbs_neg, Int.natAbs_natCast, show (-2148 : Int) = -1074 - (1074 : Nat) by decide, nearest_pw2]
  rw [show (sg x ^^ sg 13830554455654793216) = false by rw [show sg 13830554455654793216 = true from rfl, sg_of hx, decide_eq_true h0]; rfl, V_abs]
  have h := nearest_fin (mod_fin hx.1)
  rw [show (x % 9223372036854775808 / 9223372036854775808 % 2 == 1) = false by simp, Nat.mod_mod] at h
  exact congrArg some h
theorem mod_pos {x : Nat} (hx : Num x) (h : 0 ≤ V x) : x % 9223372036854775808 = x := by
  have h1 := sg_of hx
  rw [decide_eq_false (by omega)] at h1
  unfold sg at h1
  have := hx.1.1
  simp at h1; omega
theorem fl_le {x : Nat} (hx : Num x) : FloatKind.f64.format.order (fl x) x = some .lt ∨ FloatKind.f64.format.order (fl x) x = some .eq := by
  obtain ⟨h1, h2⟩ := fl_spec hx
  have hp : (0 : Int) < pw 1074 := by exact_mod_cast pw_pos 1074
  have h3 := Int.ediv_mul_le (V x) (b := (pw 1074 : Int)) (by omega)
  rcases ord_cases h1.1 hx.1 with h | h | h
  · exact .inl h.2
  · exact .inr h.2
  · have := h.1; omega
theorem cl_ge {x : Nat} (hx : Num x) : FloatKind.f64.format.order (ze (cl x)) x = some .gt ∨ FloatKind.f64.format.order (ze (cl x)) x = some .eq := by
  obtain ⟨h1, h2⟩ := cl_spec hx
  have hp : (0 : Int) < pw 1074 := by exact_mod_cast pw_pos 1074
  have h3 := Int.ediv_mul_le (-V x) (b := (pw 1074 : Int)) (by omega)
  have h4 : V (ze (cl x)) = V (cl x) := ze_val
  rcases ord_cases (ze_num h1).1 hx.1 with h | h | h
  · have := h.1; omega
  · exact .inr h.2
  · exact .inl h.2
set_option maxRecDepth 100000 in
set_option maxHeartbeats 8000000 in
theorem sides_law (a b : Nat) (w : World) (ha : a < 18446744073709551616) (hb : b < 18446744073709551616) : Calls Try.prog 6 #[.float .f64 a, .float .f64 b] w (Drew w) := by
  have HA := Lib.hid ha
  have HB := Lib.hid hb
  clear ha hb
  by_cases fa : Fnt a
  · have FA := Lib.hid fa
    by_cases fb : Fnt b
    · have FB := Lib.hid fb
      have nx := ze_num fa
      have ny := ze_num fb
      obtain ⟨x, hx⟩ : ∃ x, ze a = x := ⟨_, rfl⟩
      obtain ⟨y, hy⟩ : ∃ y, ze b = y := ⟨_, rfl⟩
      rw [hx] at nx
      rw [hy] at ny
      have X := Lib.hid hx
      have Y := Lib.hid hy
      have NX := Lib.hid nx
      have NY := Lib.hid ny
      have XL := Lib.hid nx.1.1
      have FX := Lib.hid nx.1
      have FN := Lib.hid (fl_spec nx).1
      have CN := Lib.hid (ze_num (cl_spec nx).1)
      have k0 := ord_eq nx.1 nx.1 rfl
      have k0 : FloatKind.f64.format.order x x = some .eq := k0
      have k1 := ord_eq ny.1 ny.1 rfl
      have k1 : FloatKind.f64.format.order y y = some .eq := k1
      have c1 : FloatKind.f64.format.order 4607182418800017408 4607182418800017408 = some .eq := by kernel_rfl
      have c2 : FloatKind.f64.format.order 0 0 = some .eq := by kernel_rfl
      have c3 : FloatKind.f64.format.order 13830554455654793216 13830554455654793216 = some .eq := by kernel_rfl
      obtain ⟨of, hof⟩ : ∃ o, FloatKind.f64.format.order (fl x) x = o := ⟨_, rfl⟩
      obtain ⟨oc, hoc⟩ : ∃ o, FloatKind.f64.format.order (ze (cl x)) x = o := ⟨_, rfl⟩
      have b1 := fl_le nx
      rw [hof] at b1
      have b2 := cl_ge nx
      rw [hoc] at b2
      have b1' : (of == some .lt || of == some .eq) = true := by rcases b1 with rfl | rfl <;> rfl
      have b2' : (oc == some .gt || oc == some .eq) = true := by rcases b2 with rfl | rfl <;> rfl
      have key : (V x < 0 ∧ FloatKind.f64.format.order x 0 = some .lt ∧ FloatKind.f64.format.order x 4607182418800017408 = some .lt ∧ sgw (V x) = 13830554455654793216 ∧ Ieee.double.mul x 13830554455654793216 = some (x % 9223372036854775808) ∧ decide (V x = pw 1074) = false ∧ decide (V x = 0) = false)
          ∨ (x = 0 ∧ FloatKind.f64.format.order x 0 = some .eq ∧ FloatKind.f64.format.order x 4607182418800017408 = some .lt ∧ sgw (V x) = 0 ∧ Ieee.double.mul x 0 = some (x % 9223372036854775808) ∧ decide (V x = pw 1074) = false ∧ decide (V x = 0) = true)
          ∨ (0 < V x ∧ FloatKind.f64.format.order x 0 = some .gt ∧ FloatKind.f64.format.order x 4607182418800017408 = some .eq ∧ sgw (V x) = 4607182418800017408 ∧ Ieee.double.mul x 4607182418800017408 = some (x % 9223372036854775808) ∧ decide (V x = pw 1074) = true ∧ decide (V x = 0) = false)
          ∨ (0 < V x ∧ FloatKind.f64.format.order x 0 = some .gt ∧ (FloatKind.f64.format.order x 4607182418800017408 = some .lt ∨ FloatKind.f64.format.order x 4607182418800017408 = some .gt) ∧ sgw (V x) = 4607182418800017408 ∧ Ieee.double.mul x 4607182418800017408 = some (x % 9223372036854775808) ∧ decide (V x = pw 1074) = false ∧ decide (V x = 0) = false) := by
        have hp := pw_pos 1074
        rcases Int.lt_trichotomy (V x) 0 with h | h | h
        · exact .inl ⟨h, ord_lt nx.1 fin_zero (by rw [V_zero]; exact h), ord_lt nx.1 one_fin (by rw [V_one]; omega), if_pos h, mul_mone nx h, decide_eq_false (by omega), decide_eq_false (by omega)⟩
        · have hx0 : x = 0 := nx.2 (V_eq_zero.1 h)
          refine .inr (.inl ⟨hx0, ord_eq nx.1 fin_zero (by rw [V_zero]; exact h), ord_lt nx.1 one_fin (by rw [V_one]; omega), by rw [h]; rfl, ?_, decide_eq_false (by omega), decide_eq_true h⟩)
          rw [hx0]; decide
        · have hs : sgw (V x) = 4607182418800017408 := by unfold sgw; rw [if_neg (by omega), if_neg (by omega)]
          have hm : Ieee.double.mul x 4607182418800017408 = some (x % 9223372036854775808) := by rw [mod_pos nx (by omega)]; exact mul_one' nx.1
          by_cases h1 : V x = pw 1074
          · exact .inr (.inr (.inl ⟨h, ord_gt nx.1 fin_zero (by rw [V_zero]; exact h), ord_eq nx.1 one_fin (by rw [V_one]; exact h1), hs, hm, decide_eq_true h1, decide_eq_false (by omega)⟩))
          · exact .inr (.inr (.inr ⟨h, ord_gt nx.1 fin_zero (by rw [V_zero]; exact h), ord_ne nx.1 one_fin (by rw [V_one]; exact h1), hs, hm, decide_eq_false h1, decide_eq_false (by omega)⟩))
      have key2 : (FloatKind.f64.format.order y x = some .lt ∧ FloatKind.f64.format.order x y = some .gt ∧ mxw x y = x ∧ mnw x y = y) ∨ (x = y ∧ mxw x y = x ∧ mnw x y = x) ∨ (FloatKind.f64.format.order y x = some .gt ∧ FloatKind.f64.format.order x y = some .lt ∧ mxw x y = y ∧ mnw x y = x) := by
        rcases Int.lt_trichotomy (V x) (V y) with h | h | h
        · have h' : ¬ V y < V x := by omega
          exact .inr (.inr ⟨ord_gt ny.1 nx.1 h, ord_lt nx.1 ny.1 h, if_pos h, if_neg h'⟩)
        · have h' : ¬ V y < V x := by omega
          have h'' : ¬ V x < V y := by omega
          exact .inr (.inl ⟨V_inj nx ny h, if_neg h'', if_neg h'⟩)
        · have h' : ¬ V x < V y := by omega
          exact .inl ⟨ord_lt ny.1 nx.1 h, ord_gt nx.1 ny.1 h, if_neg h', if_pos h⟩
      have km : FloatKind.f64.format.order (x % 9223372036854775808) (x % 9223372036854775808) = some .eq := ord_eq (mod_fin nx.1) (mod_fin nx.1) rfl
      clear nx ny fa fb
      rcases key2 with ⟨m1, m2, m3, m4⟩ | ⟨m1, m3, m4⟩ | ⟨m1, m2, m3, m4⟩ <;> rcases key with ⟨n0, n1, n2, n3, n4, n5, n6⟩ | ⟨n0, n1, n2, n3, n4, n5, n6⟩ | ⟨n0, n1, n2, n3, n4, n5, n6⟩ | ⟨n0, n1, n2 | n2, n3, n4, n5, n6⟩
      all_goals
        have MX := Lib.hid m3
        have MN := Lib.hid m4
        have SG := Lib.hid n3
        have T1 := Lib.hid n5
        have T0 := Lib.hid n6
        have hop := fun (t : TypeId) (w : World) => run_float_arith (P := Try.prog) w .mul t .f64 _ _ _ n4
        try subst m1
        clear m3 m4 n3 n4 n5 n6 n0 hx hy
        go_enter Try.func6, Try.ntmps6
        go_wp2_with (first | ((with_reducible refine (rtidy_fin _ _ FA.out).mono ?_); rintro e w' ⟨rfl, rfl⟩; rw [X.out]) | ((with_reducible refine (rtidy_fin _ _ FB.out).mono ?_); rintro e w' ⟨rfl, rfl⟩; rw [Y.out]) | ((with_reducible refine (truth_calls _ _ FX.out).mono ?_); rintro e w' ⟨rfl, rfl⟩; rw [T1.out, T0.out]) | ((with_reducible refine (max_calls _ _ _ NX.out NY.out).mono ?_); rintro e w' ⟨rfl, rfl⟩; rw [MX.out]) | ((with_reducible refine (min_calls _ _ _ NX.out NY.out).mono ?_); rintro e w' ⟨rfl, rfl⟩; rw [MN.out]) | ((with_reducible refine (sign_calls _ _ FX.out).mono ?_); rintro e w' ⟨rfl, rfl⟩; rw [SG.out]) | ((with_reducible refine (abs2_calls _ _ XL.out).mono ?_); rintro e w' ⟨rfl, rfl⟩) | ((with_reducible refine (flag_calls _ _).mono ?_); rintro e w' ⟨rfl, rfl⟩) | ((with_reducible refine (floor_calls _ _ FX.out).mono ?_); rintro e w' ⟨rfl, rfl⟩) | ((with_reducible refine (rfloor_calls _ _ NX.out).mono ?_); rintro e w' ⟨rfl, rfl⟩) | ((with_reducible refine (ceil_calls _ _ NX.out).mono ?_); rintro e w' ⟨rfl, rfl⟩) | ((with_reducible refine (rceil_calls _ _ NX.out).mono ?_); rintro e w' ⟨rfl, rfl⟩) | ((with_reducible refine (bits_same _ _ FN.out).mono ?_); rintro e w' ⟨rfl, rfl⟩) | ((with_reducible refine (bits_same _ _ CN.out).mono ?_); rintro e w' ⟨rfl, rfl⟩) | ((with_reducible refine (awake_calls _).mono ?_); rintro e w' ⟨rfl, m, rfl⟩))
        go_ret
        exact ⟨rfl, _, rfl⟩
    · have FB := Lib.hid fb
      clear fa fb
      go_enter Try.func6, Try.ntmps6
      go_wp2_with (first | ((with_reducible refine (rtidy_fin _ _ FA.out).mono ?_); rintro e w' ⟨rfl, rfl⟩) | ((with_reducible refine (rtidy_non _ _ HB.out FB.out).mono ?_); rintro e w' ⟨rfl, rfl⟩) | ((with_reducible refine (awake_calls _).mono ?_); rintro e w' ⟨rfl, m, rfl⟩))
      go_ret
      exact ⟨rfl, _, rfl⟩
  · have FA := Lib.hid fa
    by_cases fb : Fnt b
    · have FB := Lib.hid fb
      clear fa fb
      go_enter Try.func6, Try.ntmps6
      go_wp2_with (first | ((with_reducible refine (rtidy_non _ _ HA.out FA.out).mono ?_); rintro e w' ⟨rfl, rfl⟩) | ((with_reducible refine (rtidy_fin _ _ FB.out).mono ?_); rintro e w' ⟨rfl, rfl⟩) | ((with_reducible refine (awake_calls _).mono ?_); rintro e w' ⟨rfl, m, rfl⟩))
      go_ret
      exact ⟨rfl, _, rfl⟩
    · have FB := Lib.hid fb
      clear fa fb
      go_enter Try.func6, Try.ntmps6
      go_wp2_with (first | ((with_reducible refine (rtidy_non _ _ HA.out FA.out).mono ?_); rintro e w' ⟨rfl, rfl⟩) | ((with_reducible refine (rtidy_non _ _ HB.out FB.out).mono ?_); rintro e w' ⟨rfl, rfl⟩) | ((with_reducible refine (awake_calls _).mono ?_); rintro e w' ⟨rfl, m, rfl⟩))
      go_ret
      exact ⟨rfl, _, rfl⟩
theorem sides_frame (w : World) (a : Nat) (ha : (Lit.float .f64 a).wf = true) (b : Nat) (hb : (Lit.float .f64 b).wf = true) : Calls Try.prog 6 #[.float .f64 a, .float .f64 b] w fun e w' => e = .returned (.bool true) ∧ Below w.heap.size w w' := (sides_law a b w (wf_f64 ha) (wf_f64 hb)).mono fun _ _ h => frame_of h
end Go.Proofs.Ytlgdkpiaibhpjaa

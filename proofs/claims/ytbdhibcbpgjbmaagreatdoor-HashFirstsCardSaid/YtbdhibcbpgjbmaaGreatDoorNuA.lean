/- Package num, walked: the floats' own functions. -/
import Derived.Test.YtbdhibcbpgjbmaaGreatDoorNuM
import Derived.Test.YtbdhibcbpgjbmaaGreatDoorRows
import Derived.WalkKit
import Derived.WalkSpells
import Derived.WalkLawsBesides
import Derived.Lib.Hide
import Derived.Laws.BitsAllLaws
import Derived.Laws.Externs
import Derived.Laws.FloatArith
namespace Go.Proofs.YtbdhibcbpgjbmaaGreatDoor
set_option maxRecDepth 100000
open Go.RowKit Fl
set_option linter.unusedVariables false
theorem run_bits (P : Program) (b : Nat) (w : World) : (Extern.MathFloatBits.float64bits #[.float .f64 b]).run P w = .ok (.int .u64 b) w := rfl
theorem run_from (P : Program) (n : Int) (w : World) : (Extern.MathFloatBits.float64frombits #[.int .u64 n]).run P w = .ok (.float .f64 n.toNat) w := rfl
theorem ret_f {a b : Nat} (h : a = b) : Ending.returned (.float .f64 a) = .returned (.float .f64 b) := by rw [h]
theorem abs_calls (x : Nat) (w : World) (h : x < 18446744073709551616) : Calls Tryz.prog 131 #[.float .f64 x] w fun e w' => e = .returned (.float .f64 (x % 9223372036854775808)) ∧ w = w' := by
  have x1 := @run_callFunc_extern Tryz.prog 58 _ Extern.MathFloatBits.float64bits Tryz.func58 (by kernel_rfl) (by kernel_rfl) (by kernel_rfl) (by kernel_rfl)
  have x2 := @run_callFunc_extern Tryz.prog 144 _ Extern.MathFloatBits.float64frombits Tryz.func144 (by kernel_rfl) (by kernel_rfl) (by kernel_rfl) (by kernel_rfl)
  have x3 := run_bits Tryz.prog
  have x4 := run_from Tryz.prog
  have x5 : (bits .andNot .u64 (x : Int) 9223372036854775808).toNat = x % 9223372036854775808 := by
    rw [show (9223372036854775808 : Int) = ((9223372036854775808 : Nat) : Int) from rfl, u64_andNot_nat x _ h (by decide), Int.toNat_natCast]
    exact Nat.and_two_pow_sub_one_eq_mod x 63
  go_enter Tryz.func131, Tryz.ntmps131
  go_wp2
  go_ret
  exact ⟨rfl, rfl⟩
theorem isNaN_calls (x : Nat) (w : World) (o : Option Ordering) (h : FloatKind.f64.format.order x x = o) : Calls Tryz.prog 110 #[.float .f64 x] w fun e w' => e = .returned (.bool (o != some .eq)) ∧ w = w' := by
  go_enter Tryz.func110, Tryz.ntmps110
  go_wp2
  go_ret
  exact ⟨rfl, rfl⟩
theorem isInf_calls (x : Nat) (w : World) (hx : x < 18446744073709551616) (o : Option Ordering) (h : FloatKind.f64.format.order (x % 9223372036854775808) 9218868437227405311 = o) : Calls Tryz.prog 109 #[.float .f64 x, .int .i64 0] w fun e w' => e = .returned (.bool (o == some .gt)) ∧ w = w' := by
  go_enter Tryz.func109, Tryz.ntmps109
  go_wp2_with (refine (abs_calls _ _ hx).mono ?_; rintro e w' ⟨rfl, rfl⟩)
  go_ret
  exact ⟨rfl, rfl⟩
theorem unsigned_calls (x : Nat) (w : World) (hx : Fnt x) : Calls Tryz.prog 111 #[.float .f64 x] w fun e w' => e = .returned (.float .f64 (ze x)) ∧ w = w' := by
  by_cases hz : x % 9223372036854775808 = 0
  · have ho : FloatKind.f64.format.order x 0 = some .eq := ord_eq hx fin_zero (by rw [V_zero, V_eq_zero.2 hz])
    have hr : Hid (ze x = 0) := Lib.hid (if_pos hz)
    clear hz
    go_enter Tryz.func111, Tryz.ntmps111
    go_wp2
    go_ret
    exact ⟨ret_f hr.out.symm, rfl⟩
  · have ho := ord_ne hx fin_zero (by rw [V_zero]; exact fun e => hz (V_eq_zero.1 e))
    have hr : Hid (ze x = x) := Lib.hid (if_neg hz)
    clear hz
    rcases ho with ho | ho
    all_goals
      have ho' : FloatKind.f64.format.order x 0 = _ := ho
      clear ho
      go_enter Tryz.func111, Tryz.ntmps111
      go_wp2
      go_ret
      exact ⟨ret_f hr.out.symm, rfl⟩
theorem tidy_fin (x : Nat) (w : World) (hx : Fnt x) : Calls Tryz.prog 79 #[.float .f64 x] w fun e w' => e = .returned (.tuple #[.float .f64 (ze x), .bool true]) ∧ w = w' := by
  have h1 : Hid (FloatKind.f64.format.order x x = some .eq) := Lib.hid (ord_eq hx hx rfl)
  have h2 : Hid (FloatKind.f64.format.order (x % 9223372036854775808) 9218868437227405311 = some .lt ∨ FloatKind.f64.format.order (x % 9223372036854775808) 9218868437227405311 = some .eq) := Lib.hid (by
    rcases ord_cases (mod_fin hx) max_fin with h | h | h
    · exact .inl h.2
    · exact .inr h.2
    · have := (V_bounds (mod_fin hx)).2; omega)
  rcases h2.out with h3 | h3
  all_goals
    have h4 := Lib.hid h3
    clear h3
    go_enter Tryz.func79, Tryz.ntmps79
    go_wp2_with fail
    refine (isInf_calls _ _ hx.1 _ h4.out).mono ?_
    rintro e w' ⟨rfl, rfl⟩
    go_wp2_with fail
    refine (isNaN_calls _ _ _ h1.out).mono ?_
    rintro e w' ⟨rfl, rfl⟩
    go_wp2_with fail
    refine (unsigned_calls _ _ hx).mono ?_
    rintro e w' ⟨rfl, rfl⟩
    go_wp2
    go_ret2
    exact ⟨rfl, rfl⟩
theorem tidy_non (x : Nat) (w : World) (hx : x < 18446744073709551616) (hn : ¬ Fnt x) : Calls Tryz.prog 79 #[.float .f64 x] w fun e w' => e = .returned (.tuple #[.float .f64 0, .bool false]) ∧ w = w' := by
  rcases read_non hx hn with ⟨s, _, rfl⟩ | hnan
  · have h2 : FloatKind.f64.format.order (Ieee.double.word s 9218868437227405312 % 9223372036854775808) 9218868437227405311 = some .gt := by cases s <;> decide
    have H2 := Lib.hid h2
    clear h2
    go_enter Tryz.func79, Tryz.ntmps79
    go_wp2_with fail
    refine (isInf_calls _ _ hx _ H2.out).mono ?_
    rintro e w' ⟨rfl, rfl⟩
    go_wp2
    go_ret2
    exact ⟨rfl, rfl⟩
  · have h1 : Hid (FloatKind.f64.format.order x x = none) := Lib.hid (ord_nan hnan)
    have h2 : Hid (∃ o, FloatKind.f64.format.order (x % 9223372036854775808) 9218868437227405311 = o ∧ (o == some .gt) = false) := Lib.hid ⟨_, ord_nan (nan_mod hnan), rfl⟩
    obtain ⟨o, ho, hg⟩ := h2.out
    have H2 := Lib.hid ho
    clear ho
    go_enter Tryz.func79, Tryz.ntmps79
    go_wp2_with fail
    refine (isInf_calls _ _ hx _ H2.out).mono ?_
    rintro e w' ⟨rfl, rfl⟩
    go_wp2_with fail
    refine (isNaN_calls _ _ _ h1.out).mono ?_
    rintro e w' ⟨rfl, rfl⟩
    go_wp2
    go_ret2
    exact ⟨rfl, rfl⟩
theorem ret_fb {a b : Nat} {c : Bool} (h : a = b) : Ending.returned (.tuple #[.float .f64 a, .bool c]) = .returned (.tuple #[.float .f64 b, .bool c]) := by rw [h]
theorem rfinite_fin (x : Nat) (w : World) (hx : Fnt x) : Calls Tryz.prog 62 #[.float .f64 x] w fun e w' => e = .returned (.bool true) ∧ w = w' := by
  have h1 : FloatKind.f64.format.order x 18442240474082181119 = some .gt ∨ FloatKind.f64.format.order x 18442240474082181119 = some .eq := by
    rcases ord_cases hx min_fin with h | h | h
    · have := (V_bounds hx).1; omega
    · exact .inr h.2
    · exact .inl h.2
  have h2 : FloatKind.f64.format.order x 9218868437227405311 = some .lt ∨ FloatKind.f64.format.order x 9218868437227405311 = some .eq := by
    rcases ord_cases hx max_fin with h | h | h
    · exact .inl h.2
    · exact .inr h.2
    · have := (V_bounds hx).2; omega
  clear hx
  rcases h1 with h1 | h1 <;> rcases h2 with h2 | h2
  all_goals
    go_enter Tryz.func62, Tryz.ntmps62
    go_wp2
    go_ret
    exact ⟨rfl, rfl⟩
theorem rfinite_non (x : Nat) (w : World) (hx : x < 18446744073709551616) (hn : ¬ Fnt x) : Calls Tryz.prog 62 #[.float .f64 x] w fun e w' => e = .returned (.bool false) ∧ w = w' := by
  have key : (FloatKind.f64.format.order x 18442240474082181119 = none ∧ True) ∨ (FloatKind.f64.format.order x 18442240474082181119 = some .lt) ∨ (FloatKind.f64.format.order x 18442240474082181119 = some .gt ∧ FloatKind.f64.format.order x 9218868437227405311 = some .gt) := by
    rcases read_non hx hn with ⟨s, _, rfl⟩ | hnan
    · cases s
      · exact .inr (.inr ⟨by decide, by decide⟩)
      · exact .inr (.inl (by decide))
    · exact .inl ⟨ord_nan hnan, trivial⟩
  clear hx hn
  rcases key with ⟨h1, _⟩ | h1 | ⟨h1, h2⟩
  all_goals
    go_enter Tryz.func62, Tryz.ntmps62
    go_wp2
    go_ret
    exact ⟨rfl, rfl⟩
theorem rtidy_fin (x : Nat) (w : World) (hx : Fnt x) : Calls Tryz.prog 28 #[.float .f64 x] w fun e w' => e = .returned (.tuple #[.float .f64 (ze x), .bool true]) ∧ w = w' := by
  have HX := Lib.hid hx
  by_cases hz : x % 9223372036854775808 = 0
  · have ho : FloatKind.f64.format.order x 0 = some .eq := ord_eq hx fin_zero (by rw [V_zero, V_eq_zero.2 hz])
    have hr : Hid (ze x = 0) := Lib.hid (if_pos hz)
    clear hz hx
    go_enter Tryz.func28, Tryz.ntmps28
    go_wp2_with (refine (rfinite_fin _ _ HX.out).mono ?_; rintro e w' ⟨rfl, rfl⟩)
    go_ret2
    exact ⟨ret_fb hr.out.symm, rfl⟩
  · have ho := ord_ne hx fin_zero (by rw [V_zero]; exact fun e => hz (V_eq_zero.1 e))
    have hr : Hid (ze x = x) := Lib.hid (if_neg hz)
    clear hz hx
    rcases ho with ho | ho
    all_goals
      have ho' : FloatKind.f64.format.order x 0 = _ := ho
      clear ho
      go_enter Tryz.func28, Tryz.ntmps28
      go_wp2_with (refine (rfinite_fin _ _ HX.out).mono ?_; rintro e w' ⟨rfl, rfl⟩)
      go_ret2
      exact ⟨ret_fb hr.out.symm, rfl⟩
theorem rtidy_non (x : Nat) (w : World) (hx : x < 18446744073709551616) (hn : ¬ Fnt x) : Calls Tryz.prog 28 #[.float .f64 x] w fun e w' => e = .returned (.tuple #[.float .f64 0, .bool false]) ∧ w = w' := by
  have HX := Lib.hid hx
  have HN := Lib.hid hn
  clear hx hn
  go_enter Tryz.func28, Tryz.ntmps28
  go_wp2_with (refine (rfinite_non _ _ HX.out HN.out).mono ?_; rintro e w' ⟨rfl, rfl⟩)
  go_ret2
  exact ⟨rfl, rfl⟩
/-- Two numbers alike are one. -/
theorem bits_same (x : Nat) (w : World) (hx : Num x) : Calls Tryz.prog 60 #[.float .f64 x, .float .f64 x] w fun e w' => e = .returned (.bool true) ∧ w = w' := by
  have h1 : FloatKind.f64.format.order x x = some .eq := ord_eq hx.1 hx.1 rfl
  by_cases hz : x % 9223372036854775808 = 0
  · have hx0 := hx.2 hz
    subst hx0
    clear hz hx h1
    have h2 : ∀ t w, (binOp .quo t (.float .f64 4607182418800017408) (.float .f64 0)).run Tryz.prog w = .ok (.float .f64 9218868437227405312) w := fun t w => run_float_arith w .quo t .f64 _ _ _ (by decide)
    have h3 : FloatKind.f64.format.order 9218868437227405312 9218868437227405312 = some .eq := by decide
    have h1 : FloatKind.f64.format.order 0 0 = some .eq := by decide
    go_enter Tryz.func60, Tryz.ntmps60
    go_wp2
    go_ret
    exact ⟨rfl, rfl⟩
  · have ho := ord_ne hx.1 fin_zero (by rw [V_zero]; exact fun e => hz (V_eq_zero.1 e))
    clear hz hx
    rcases ho with ho | ho
    all_goals
      have ho' : FloatKind.f64.format.order x 0 = _ := ho
      clear ho
      go_enter Tryz.func60, Tryz.ntmps60
      go_wp2
      go_ret
      exact ⟨rfl, rfl⟩
/-- What comes of an operation is told so. -/
theorem ret_rs {z : Nat} {a : Nat} {i : Int} (h : rs z = (a, i)) : Ending.returned (.tuple #[.float .f64 a, .int .i64 i]) = .returned (.tuple #[.float .f64 (rs z).1, .int .i64 (rs z).2]) := by rw [h]
end Go.Proofs.YtbdhibcbpgjbmaaGreatDoor

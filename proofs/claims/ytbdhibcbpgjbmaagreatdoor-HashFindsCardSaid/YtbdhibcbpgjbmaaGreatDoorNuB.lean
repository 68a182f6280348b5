/- Package num, walked: whole numbers. -/
import Derived.Test.YtbdhibcbpgjbmaaGreatDoorNuA
import Derived.Test.YtbdhibcbpgjbmaaGreatDoorNuN
import Derived.IntWalk
namespace Go.Proofs.YtbdhibcbpgjbmaaGreatDoor
set_option maxRecDepth 100000
open Go.RowKit Fl
set_option linter.unusedVariables false
/-- A float cut to a whole number. -/
def tr (x : Nat) : Nat := Ieee.double.nearest (sg x) ((V x).natAbs / pw 1074) 0
theorem run_integral (P : Program) (name : String) (way : Ieee.Toward) (hw : way ≠ .even) (x : Nat) (hx : Fnt x) (w : World) : (Extern.MathFloor.toIntegral name way #[.float .f64 x]).run P w = .ok (.float .f64 (Ieee.double.nearest (sg x) (way.cut (sg x) (V x).natAbs 1074) 0)) w := by
  obtain ⟨m, k, h1, _, _⟩ := read_fin' hx
  have h2 := integral_fin hx way hw
  have h3 : FloatKind.f64.decode x = Ieee.Datum.number (sg x) m (-1074 + k) := h1
  rw [h1] at h2
  have h4 : ∀ d, FloatKind.f64.decode x = d → (∃ s m p, d = Ieee.Datum.number s m p) → Extern.MathFloor.toIntegral name way #[.float .f64 x] = pure (.float .f64 (FloatKind.f64.encode (d.integral way))) := by
    intro d hd ⟨s, m, p, e⟩
    subst e
    show (match FloatKind.f64.decode x with
      | .nan s t => _
      | d => pure (.float .f64 (FloatKind.f64.encode (d.integral way))) : Sem Value) = _
    rw [hd]
  rw [h4 _ h3 ⟨_, _, _, rfl⟩, h2]
  rfl
theorem trunc_calls (x : Nat) (w : World) (hx : Fnt x) : Calls Tryz.prog 132 #[.float .f64 x] w fun e w' => e = .returned (.float .f64 (tr x)) ∧ w = w' := by
  have x1 := @run_callFunc_extern Tryz.prog 145 _ (Extern.MathFloor.toIntegral "math.archTrunc" .zero) Tryz.func145 (by kernel_rfl) (by kernel_rfl) (by kernel_rfl) (by kernel_rfl)
  have x2 : ∀ w, (Extern.MathFloor.toIntegral "math.archTrunc" .zero #[.float .f64 x]).run Tryz.prog w = .ok (.float .f64 (tr x)) w := fun w => by
    rw [run_integral _ _ _ (by decide) x hx, cut_zero', tr]
  go_enter Tryz.func132, Tryz.ntmps132
  go_wp2
  go_ret
  exact ⟨rfl, rfl⟩
/-- A float that is a whole number. -/
def Wh (x : Nat) (n : Int) : Prop := Fnt x ∧ n.natAbs ≤ 9007199254740992 ∧ V x = n * pw 1074
/-- How a word stands to the greatest and the least whole number. -/
theorem bounds_cases (x : Nat) (hx : x < 18446744073709551616) :
    (FloatKind.f64.format.order x 14069245235905429504 = none ∧ ¬ Fnt x) ∨ (FloatKind.f64.format.order x 14069245235905429504 = some .lt ∧ ∀ n, ¬ Wh x n)
    ∨ ((FloatKind.f64.format.order x 14069245235905429504 = some .gt ∨ FloatKind.f64.format.order x 14069245235905429504 = some .eq) ∧ FloatKind.f64.format.order x 4845873199050653696 = some .gt ∧ ∀ n, ¬ Wh x n)
    ∨ ((FloatKind.f64.format.order x 14069245235905429504 = some .gt ∨ FloatKind.f64.format.order x 14069245235905429504 = some .eq) ∧ (FloatKind.f64.format.order x 4845873199050653696 = some .lt ∨ FloatKind.f64.format.order x 4845873199050653696 = some .eq) ∧ Fnt x ∧ (V x).natAbs ≤ 9007199254740992 * pw 1074) := by
  have hp : (0 : Int) < pw 1074 := by exact_mod_cast pw_pos 1074
  by_cases hf : Fnt x
  · have nw : ∀ n, Wh x n → -(9007199254740992 * (pw 1074 : Int)) ≤ V x ∧ V x ≤ 9007199254740992 * (pw 1074 : Int) := by
      rintro n ⟨_, h1, h2⟩
      rw [h2]
      exact ⟨by rw [← Int.neg_mul]; exact Int.mul_le_mul_of_nonneg_right (by omega) (Int.le_of_lt hp), Int.mul_le_mul_of_nonneg_right (by omega) (Int.le_of_lt hp)⟩
    rcases ord_cases hf bot_fin with h | h | h
    · exact .inr (.inl ⟨h.2, fun n hn => by have := (nw n hn).1; have := h.1; rw [V_bot] at this; omega⟩)
    all_goals
      rcases ord_cases hf top_fin with g | g | g
      · refine .inr (.inr (.inr ⟨?_, .inl g.2, hf, ?_⟩))
        · first | exact .inl h.2 | exact .inr h.2
        · have a := h.1; have b := g.1; rw [V_bot] at a; rw [V_top] at b; generalize pw 1074 = t at *; omega
      · refine .inr (.inr (.inr ⟨?_, .inr g.2, hf, ?_⟩))
        · first | exact .inl h.2 | exact .inr h.2
        · have a := h.1; have b := g.1; rw [V_bot] at a; rw [V_top] at b; generalize pw 1074 = t at *; omega
      · refine .inr (.inr (.inl ⟨?_, g.2, fun n hn => by have := (nw n hn).2; have := g.1; rw [V_top] at this; omega⟩))
        first | exact .inl h.2 | exact .inr h.2
  · rcases read_non hx hf with ⟨s, _, rfl⟩ | hnan
    · cases s
      · exact .inr (.inr (.inl ⟨.inl (by decide), by decide, fun n hn => hf hn.1⟩))
      · exact .inr (.inl ⟨by decide, fun n hn => hf hn.1⟩)
    · exact .inl ⟨ord_nan hnan, hf⟩
theorem wh_tr (x : Nat) (hx : Fnt x) (hb : (V x).natAbs ≤ 9007199254740992 * pw 1074) : Fnt (tr x) ∧ (V (tr x) = V x ↔ ∃ n, Wh x n) := by
  have hq : (V x).natAbs / pw 1074 ≤ 9007199254740992 := by
    exact Nat.div_le_of_le_mul (by rw [Nat.mul_comm]; exact hb)
  obtain ⟨h1, h2⟩ := nearest_whole (sg x) _ hq
  refine ⟨h1, ?_⟩
  rw [show V (tr x) = _ from h2]
  have hs := V_sg x
  constructor
  · intro h
    clear h2 h1 hs hb
    generalize (V x).natAbs / pw 1074 = q at *
    refine ⟨if sg x then -(q : Int) else q, hx, by split <;> omega, ?_⟩
    rw [← h]
    split <;> simp [Int.neg_mul]
  · rintro ⟨n, _, h3, h4⟩
    have h5 : (V x).natAbs = n.natAbs * pw 1074 := by rw [h4, Int.natAbs_mul]; simp
    rw [h5, Nat.mul_div_cancel _ (pw_pos 1074), ← h5]
    exact hs.symm
theorem wh_int (x : Nat) (n : Int) (h : Wh x n) : floatToIntVal .f64 x .i64 = some n := by
  have hd : FloatKind.f64.decode x = Ieee.double.read x := rfl
  have hm : IntKind.i64.min = -9223372036854775808 ∧ IntKind.i64.max = 9223372036854775807 := by decide
  have hp : (pw 1074 : Int) ≠ 0 := by have := pw_pos 1074; omega
  unfold floatToIntVal
  rw [hd, toInt_fin h.1, h.2.2, Int.mul_tdiv_cancel _ hp]
  have := h.2.1
  simp only
  rw [if_pos ⟨by omega, by omega⟩]
theorem whole_yes (x : Nat) (n : Int) (w : World) (h : Wh x n) : Calls Tryz.prog 112 #[.float .f64 x] w fun e w' => e = .returned (.tuple #[.int .i64 n, .bool true]) ∧ w = w' := by
  have hi := wh_int x n h
  have hc : ∀ w, (convert 31 2 (.float .f64 x)).run Tryz.prog w = .ok (.int .i64 n) w := fun w => run_convert_float_int w 31 2 .f64 .i64 x n (by kernel_rfl) (by kernel_rfl) hi
  rcases bounds_cases x h.1.1 with ⟨_, hf⟩ | ⟨_, hf⟩ | ⟨_, _, hf⟩ | ⟨h1, h2, hf, hb⟩
  · exact absurd h.1 hf
  · exact absurd h (hf n)
  · exact absurd h (hf n)
  have ht := wh_tr x hf hb
  have h3 : FloatKind.f64.format.order x (tr x) = some .eq := ord_eq hf ht.1 (ht.2.2 ⟨n, h⟩).symm
  have HF := Lib.hid hf
  clear hf hb ht hi h
  rcases h1 with h1 | h1 <;> rcases h2 with h2 | h2
  all_goals
    go_enter Tryz.func112, Tryz.ntmps112
    go_wp2_with (refine (trunc_calls _ _ HF.out).mono ?_; rintro e w' ⟨rfl, rfl⟩)
    go_ret2
    exact ⟨rfl, rfl⟩
theorem whole_no (x : Nat) (w : World) (hx : x < 18446744073709551616) (h : ∀ n, ¬ Wh x n) : Calls Tryz.prog 112 #[.float .f64 x] w fun e w' => e = .returned (.tuple #[.int .i64 0, .bool false]) ∧ w = w' := by
  rcases bounds_cases x hx with ⟨h1, hf⟩ | ⟨h1, hf⟩ | ⟨h1, h2, hf⟩ | ⟨h1, h2, hf, hb⟩
  · clear hf h
    go_enter Tryz.func112, Tryz.ntmps112
    go_wp2
    go_ret2
    exact ⟨rfl, rfl⟩
  · clear hf h
    go_enter Tryz.func112, Tryz.ntmps112
    go_wp2
    go_ret2
    exact ⟨rfl, rfl⟩
  · clear hf h
    rcases h1 with h1 | h1
    all_goals
      go_enter Tryz.func112, Tryz.ntmps112
      go_wp2
      go_ret2
      exact ⟨rfl, rfl⟩
  · have ht := wh_tr x hf hb
    have h3 : FloatKind.f64.format.order x (tr x) = some .lt ∨ FloatKind.f64.format.order x (tr x) = some .gt := ord_ne hf ht.1 (fun e => by obtain ⟨n, hn⟩ := ht.2.1 e.symm; exact h n hn)
    have HF := Lib.hid hf
    clear hf hb ht h
    rcases h1 with h1 | h1 <;> rcases h2 with h2 | h2 <;> rcases h3 with h3 | h3
    all_goals
      go_enter Tryz.func112, Tryz.ntmps112
      go_wp2_with (refine (trunc_calls _ _ HF.out).mono ?_; rintro e w' ⟨rfl, rfl⟩)
      go_ret2
      exact ⟨rfl, rfl⟩
theorem int_of (x : Nat) (hx : Fnt x) (hb : (V x).natAbs ≤ 9007199254740992 * pw 1074) : ∃ n : Int, floatToIntVal .f64 x .i64 = some n ∧ n.natAbs ≤ 9007199254740992 ∧ n = (V x).tdiv (pw 1074) := by
  have hd : FloatKind.f64.decode x = Ieee.double.read x := rfl
  have hm : IntKind.i64.min = -9223372036854775808 ∧ IntKind.i64.max = 9223372036854775807 := by decide
  have hq : ((V x).tdiv (pw 1074)).natAbs ≤ 9007199254740992 := by
    rw [Int.natAbs_tdiv]
    exact Nat.div_le_of_le_mul (by rw [Nat.mul_comm, Int.natAbs_natCast]; exact hb)
  refine ⟨(V x).tdiv (pw 1074), ?_, hq, rfl⟩
  unfold floatToIntVal
  rw [hd, toInt_fin hx]
  simp only
  rw [if_pos ⟨by omega, by omega⟩]
theorem int_back (x : Nat) (hx : Fnt x) (n : Int) (h1 : n.natAbs ≤ 9007199254740992) (h2 : n = (V x).tdiv (pw 1074)) : V (floatOfInt .f64 n) = V x ↔ ∃ m, Wh x m := by
  have hp : (pw 1074 : Int) ≠ 0 := by have := pw_pos 1074; omega
  rw [ofInt_val n h1]
  constructor
  · intro h; exact ⟨n, hx, h1, h.symm⟩
  · rintro ⟨m, h3⟩
    rw [h2, h3.2.2, Int.mul_tdiv_cancel _ hp]
/-- A whole number of a size that fits. -/
def sm (n : Int) : Bool := decide (-9007199254740992 ≤ n ∧ n ≤ 9007199254740992)
theorem sm_yes {n : Int} (h1 : -9007199254740992 ≤ n) (h2 : n ≤ 9007199254740992) : sm n = true := decide_eq_true ⟨h1, h2⟩
theorem sm_no {n : Int} (h : n < -9007199254740992 ∨ 9007199254740992 < n) : sm n = false := decide_eq_false (by omega)
theorem sm_of {n : Int} (h : sm n = true) : -9007199254740992 ≤ n ∧ n ≤ 9007199254740992 := of_decide_eq_true h
theorem sm_not {n : Int} (h : sm n = false) : n < -9007199254740992 ∨ 9007199254740992 < n := by have := of_decide_eq_false h; omega
theorem ret_b {a b : Bool} (h : a = b) : Ending.returned (.bool a) = .returned (.bool b) := by rw [h]
theorem ret_i {k : IntKind} {a b : Int} (h : a = b) : Ending.returned (.int k a) = .returned (.int k b) := by rw [h]
/-- A product that fits. -/
def pm (a b : Int) : Bool := decide (a.natAbs * b.natAbs ≤ 9007199254740992)
theorem pm_div {a b : Int} (ha : a ≠ 0) : (pm a b = true) ↔ (b.natAbs : Int) ≤ 9007199254740992 / (a.natAbs : Int) := by
  unfold pm
  rw [decide_eq_true_iff, Nat.mul_comm, ← Nat.le_div_iff_mul_le (by omega), show (9007199254740992 : Int) = ((9007199254740992 : Nat) : Int) from rfl, ← Int.natCast_ediv]
  exact Int.ofNat_le.symm
theorem pm_zero {b : Int} : pm 0 b = true := by simp [pm]
theorem pm_bound {a b : Int} (h : pm a b = true) : -9007199254740992 ≤ a * b ∧ a * b ≤ 9007199254740992 := by
  have h1 : a.natAbs * b.natAbs ≤ 9007199254740992 := of_decide_eq_true h
  rw [← Int.natAbs_mul] at h1
  omega
end Go.Proofs.YtbdhibcbpgjbmaaGreatDoor

/- Package num, walked: sums, products, quotients; sides; whole numbers below and above. -/
import Derived.Test.YtbdhibcbpgjbmaaGreatDoorNuB
namespace Go.Proofs.YtbdhibcbpgjbmaaGreatDoor
set_option maxRecDepth 100000
open Go.RowKit Fl
set_option linter.unusedVariables false
theorem wf_f64 {z : Nat} (h : (Lit.float .f64 z).wf = true) : z < 18446744073709551616 := by simpa [Lit.wf] using h
theorem bits_lt {op : BinOp} {a b z : Nat} (h : floatBits op .f64 a b = some z) : z < 18446744073709551616 := wf_f64 (floatBits_wf h)
theorem flag_calls (b : Bool) (w : World) : Calls Tryz.prog 92 #[.bool b] w fun e w' => e = .returned (.float .f64 (if b then 4607182418800017408 else 0)) ∧ w = w' := by
  cases b
  all_goals
    go_enter Tryz.func92, Tryz.ntmps92
    go_wp2
    go_ret
    exact ⟨rfl, rfl⟩
/-- The sign of a value, as a word. -/
def sgw (v : Int) : Nat := if v < 0 then 13830554455654793216 else if v = 0 then 0 else 4607182418800017408
theorem truth_calls (x : Nat) (w : World) (h : Fnt x) : Calls Tryz.prog 81 #[.float .f64 x] w fun e w' => e = .returned (.tuple #[.bool (decide (V x = pw 1074)), .bool (decide (V x = 0) || decide (V x = pw 1074))]) ∧ w = w' := by
  have hp := pw_pos 1074
  have key : (FloatKind.f64.format.order x 0 = some .eq ∧ FloatKind.f64.format.order x 4607182418800017408 = some .lt ∧ V x = 0 ∧ V x ≠ pw 1074)
     ∨ ((FloatKind.f64.format.order x 0 = some .gt ∨ FloatKind.f64.format.order x 0 = some .lt) ∧ (FloatKind.f64.format.order x 4607182418800017408 = some .lt ∨ FloatKind.f64.format.order x 4607182418800017408 = some .gt) ∧ V x ≠ 0 ∧ V x ≠ pw 1074)
     ∨ (FloatKind.f64.format.order x 0 = some .gt ∧ FloatKind.f64.format.order x 4607182418800017408 = some .eq ∧ V x ≠ 0 ∧ V x = pw 1074) := by
    have a := ord_cases h fin_zero
    have b := ord_cases h one_fin
    rw [V_zero] at a
    rw [V_one] at b
    rcases a with ⟨a1, a2⟩ | ⟨a1, a2⟩ | ⟨a1, a2⟩ <;> rcases b with ⟨b1, b2⟩ | ⟨b1, b2⟩ | ⟨b1, b2⟩ <;> first
      | omega
      | exact .inl ⟨a2, b2, by omega, by omega⟩
      | exact .inr (.inr ⟨a2, b2, by omega, by omega⟩)
      | exact .inr (.inl ⟨by first | exact .inl a2 | exact .inr a2, by first | exact .inl b2 | exact .inr b2, by omega, by omega⟩)
  clear h hp
  rcases key with ⟨h1, h2, h3, h4⟩ | ⟨h1 | h1, h2 | h2, h3, h4⟩ | ⟨h1, h2, h3, h4⟩
  all_goals
    have H3 := Lib.hid (show decide (V x = 0) = _ from by first | exact decide_eq_true h3 | exact decide_eq_false h3)
    have H4 := Lib.hid (show decide (V x = (pw 1074 : Int)) = _ from by first | exact decide_eq_true h4 | exact decide_eq_false h4)
    rw [H3.out, H4.out]
    clear h3 h4
    go_enter Tryz.func81, Tryz.ntmps81
    go_wp2
    go_ret2
    exact ⟨rfl, rfl⟩
/-- The greater and the lesser one of two words. -/
def mxw (x y : Nat) : Nat := if V x < V y then y else x
def mnw (x y : Nat) : Nat := if V y < V x then y else x
theorem run_floor (x : Nat) (hx : Fnt x) (w : World) : (Extern.MathFloor.toIntegral "math.archFloor" .down #[.float .f64 x]).run Tryz.prog w = .ok (.float .f64 (fl x)) w := by
  rw [run_integral _ _ _ (by decide) x hx, cut_down', fl]
theorem run_ceil (x : Nat) (hx : Fnt x) (w : World) : (Extern.MathFloor.toIntegral "math.archCeil" .up #[.float .f64 x]).run Tryz.prog w = .ok (.float .f64 (cl x)) w := by
  rw [run_integral _ _ _ (by decide) x hx, cut_up', cl]
/-- Whole steps of a value. -/
theorem tdiv_floor (v : Int) (t : Nat) (ht : 0 < t) : (v < v.tdiv t * t → v / (t : Int) = v.tdiv t - 1) ∧ (v.tdiv t * t ≤ v → v / (t : Int) = v.tdiv t) := by
  have hd := div_parts v t ht
  by_cases hv : v < 0
  · obtain ⟨m, rfl⟩ : ∃ m : Nat, v = -(m : Int) := ⟨v.natAbs, by omega⟩
    have e : (-(m : Int)).tdiv t = -((m / t : Nat) : Int) := by rw [Int.neg_tdiv]; simp
    rw [if_pos hv, Int.natAbs_neg, Int.natAbs_natCast] at hd
    rw [hd, e]
    have h1 := Nat.div_add_mod m t
    generalize m / t = q at *
    generalize m % t = r at *
    have h3 : (m : Int) = t * q + r := by exact_mod_cast h1.symm
    rw [h3, Int.neg_mul, Int.mul_comm (q : Int)]
    generalize (t : Int) * q = z
    constructor
    · intro h
      rw [if_neg (by omega)]; omega
    · intro h
      rw [if_pos (by omega)]; omega
  · obtain ⟨m, rfl⟩ : ∃ m : Nat, v = (m : Int) := ⟨v.natAbs, by omega⟩
    have e : (m : Int).tdiv t = ((m / t : Nat) : Int) := by simp
    rw [if_neg hv, Int.natAbs_natCast] at hd
    rw [hd, e]
    have h1 := Nat.div_mul_le_self m t
    have h2 : ((m / t : Nat) : Int) * (t : Int) ≤ (m : Int) := by exact_mod_cast h1
    exact ⟨fun h => by omega, fun _ => rfl⟩
end Go.Proofs.YtbdhibcbpgjbmaaGreatDoor

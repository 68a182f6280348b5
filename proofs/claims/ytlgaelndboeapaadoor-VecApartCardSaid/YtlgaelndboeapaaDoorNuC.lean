/- Package num, walked: sums, products, quotients; sides; whole numbers below and above. -/
import Derived.Test.YtlgaelndboeapaaDoorNuB
namespace Go.Proofs.YtlgaelndboeapaaDoor
open Go.RowKit Fl
set_option linter.unusedVariables false
theorem wf_f64 {z : Nat} (h : (Lit.float .f64 z).wf = true) : z < 18446744073709551616 := by simpa [Lit.wf] using h
theorem bits_lt {op : BinOp} {a b z : Nat} (h : floatBits op .f64 a b = some z) : z < 18446744073709551616 := wf_f64 (floatBits_wf h)
theorem flag_calls (b : Bool) (w : World) : Calls Tryd.prog 48 #[.bool b] w fun e w' => e = .returned (.float .f64 (if b then 4607182418800017408 else 0)) ∧ w = w' := by
  cases b
  all_goals
    go_enter Tryd.func48, Tryd.ntmps48
    go_wp2
    go_ret
    exact ⟨rfl, rfl⟩
/-- The sign of a value, as a word. -/
def sgw (v : Int) : Nat := if v < 0 then 13830554455654793216 else if v = 0 then 0 else 4607182418800017408
/-- The greater and the lesser one of two words. -/
def mxw (x y : Nat) : Nat := if V x < V y then y else x
def mnw (x y : Nat) : Nat := if V y < V x then y else x
theorem run_floor (x : Nat) (hx : Fnt x) (w : World) : (Extern.MathFloor.toIntegral "math.archFloor" .down #[.float .f64 x]).run Tryd.prog w = .ok (.float .f64 (fl x)) w := by
  rw [run_integral _ _ _ (by decide) x hx, cut_down', fl]
theorem run_ceil (x : Nat) (hx : Fnt x) (w : World) : (Extern.MathFloor.toIntegral "math.archCeil" .up #[.float .f64 x]).run Tryd.prog w = .ok (.float .f64 (cl x)) w := by
  rw [run_integral _ _ _ (by decide) x hx, cut_up', cl]
/-- Whole steps of a value. -/
theorem tdiv_floor (v : Int) (t : Nat) (ht : 0 < t) : (v < v.tdiv t * t → v / (t : Int) = v.tdiv t - 1) ∧ (v.tdiv t * t ≤ v → v / (t : Int) = v.tdiv t) := by
  have hd := div_parts v t ht
  by_cases hv : v < 0
  · obtain ⟨m, rfl⟩ : ∃ m : Nat, v = -(m : Int) := ⟨v.natAbs, by omega⟩
    have e : (-(m : Int)).tdiv t = -((m / t : Nat) : Int) := by rw [Int.neg_tdiv]; simp
    rw [if_pos hv, Int.natAbs_neg, Int.natAbs_natCast] at hd
    rw [hd, e]
    have h1 := Nat.div_add_mod m t
    generalize m / t = q at *
    generalize m % t = r at *
    have h3 : (m : Int) = t * q + r := by exact_mod_cast h1.symm
    rw [h3, Int.neg_mul, Int.mul_comm (q : Int)]
    generalize (t : Int) * q = z
    constructor
    · intro h
      rw [if_neg (by omega)]; omega
    · intro h
      rw [if_pos (by omega)]; omega
  · obtain ⟨m, rfl⟩ : ∃ m : Nat, v = (m : Int) := ⟨v.natAbs, by omega⟩
    have e : (m : Int).tdiv t = ((m / t : Nat) : Int) := by simp
    rw [if_neg hv, Int.natAbs_natCast] at hd
    rw [hd, e]
    have h1 := Nat.div_mul_le_self m t
    have h2 : ((m / t : Nat) : Int) * (t : Int) ≤ (m : Int) := by exact_mod_cast h1
    exact ⟨fun h => by omega, fun _ => rfl⟩
end Go.Proofs.YtlgaelndboeapaaDoor

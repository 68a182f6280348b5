/- Layer 3's laws, walked: NumWhole, NumSides. Written by a program of mine. -/
import Derived.Test.YtbdhibcbpgjbmaaGreatDoorNuG
namespace Go.Proofs.YtbdhibcbpgjbmaaGreatDoor
set_option maxRecDepth 100000
open Go.RowKit Fl
set_option linter.unusedVariables false
theorem sgn_val (y : Int) (t : Nat) (s : Bool) (ht : 0 < t) : (if (if y * (t : Int) = 0 then s else decide (y * (t : Int) < 0)) = true then -((y.natAbs * t : Nat) : Int) else ((y.natAbs * t : Nat) : Int)) = y * t := by
  rcases Int.lt_trichotomy y 0 with h | h | h
  · obtain ⟨m, rfl⟩ : ∃ m : Nat, y = -(m : Int) := ⟨y.natAbs, by omega⟩
    have h1 : -(m : Int) * t < 0 := Int.mul_neg_of_neg_of_pos h (by omega)
    rw [if_neg (c := -(m : Int) * t = 0) (by omega), if_pos (by simpa using h1)]
    rw [Int.natAbs_neg, Int.natAbs_natCast, Int.neg_mul]; simp
  · subst h; simp
  · obtain ⟨m, rfl⟩ : ∃ m : Nat, y = (m : Int) := ⟨y.natAbs, by omega⟩
    have h1 : 0 < (m : Int) * t := Int.mul_pos h (by omega)
    rw [if_neg (c := (m : Int) * t = 0) (by omega), if_neg (by simp only [decide_eq_true_eq]; omega)]
    simp
theorem prod_val (a b : Int) (t : Nat) : (if (decide (a < 0) ^^ decide (b < 0)) = true then -((a.natAbs * b.natAbs * t : Nat) : Int) else ((a.natAbs * b.natAbs * t : Nat) : Int)) = a * b * t := by
  by_cases ha : a < 0
  · obtain ⟨m, rfl⟩ : ∃ m : Nat, a = -(m : Int) := ⟨a.natAbs, by omega⟩
    by_cases hb : b < 0
    · obtain ⟨n, rfl⟩ : ∃ n : Nat, b = -(n : Int) := ⟨b.natAbs, by omega⟩
      rw [decide_eq_true ha, decide_eq_true hb]; simp [Int.neg_mul, Int.mul_neg]
    · obtain ⟨n, rfl⟩ : ∃ n : Nat, b = (n : Int) := ⟨b.natAbs, by omega⟩
      rw [decide_eq_true ha, decide_eq_false hb]; simp [Int.neg_mul]
  · obtain ⟨m, rfl⟩ : ∃ m : Nat, a = (m : Int) := ⟨a.natAbs, by omega⟩
    by_cases hb : b < 0
    · obtain ⟨n, rfl⟩ : ∃ n : Nat, b = -(n : Int) := ⟨b.natAbs, by omega⟩
      rw [decide_eq_false ha, decide_eq_true hb]; simp [Int.neg_mul, Int.mul_neg]
    · obtain ⟨n, rfl⟩ : ∃ n : Nat, b = (n : Int) := ⟨b.natAbs, by omega⟩
      rw [decide_eq_false ha, decide_eq_false hb]; simp
/-- Sums and differences of whole numbers, done in floats. -/
theorem whole_sum {a b : Int} (ha : a.natAbs ≤ 9007199254740992) (hb : b.natAbs ≤ 9007199254740992) : ∃ z, Ieee.double.add (floatOfInt .f64 a) (floatOfInt .f64 b) = some z ∧ Fnt z ∧ ((a + b).natAbs ≤ 9007199254740992 → V z = (a + b) * pw 1074) := by
  have fa := ofInt_fin a (by omega)
  have fb := ofInt_fin b (by omega)
  have e := add_fin fa fb
  have ev : V (floatOfInt .f64 a) + V (floatOfInt .f64 b) = (a + b) * pw 1074 := by rw [ofInt_val a ha, ofInt_val b hb, Int.add_mul]
  rw [ev, Int.natAbs_mul, Int.natAbs_natCast, ← nearest_pw _ _ 0 1074 (by decide)] at e
  refine ⟨_, e, nearest_small _ _ _ ?_, fun h => ?_⟩
  · by_cases hz : (a + b).natAbs = 0
    · rw [hz]; decide
    · have := (Nat.log2_lt (k := 64) hz).2 (by omega)
      omega
  · rw [(nearest_whole _ _ h).2]
    exact sgn_val (a + b) (pw 1074) _ (pw_pos _)
theorem whole_diff {a b : Int} (ha : a.natAbs ≤ 9007199254740992) (hb : b.natAbs ≤ 9007199254740992) : ∃ z, Ieee.double.sub (floatOfInt .f64 a) (floatOfInt .f64 b) = some z ∧ Fnt z ∧ ((a - b).natAbs ≤ 9007199254740992 → V z = (a - b) * pw 1074) := by
  have fa := ofInt_fin a (by omega)
  have fb := ofInt_fin b (by omega)
  have e := sub_fin fa fb
  have ev : V (floatOfInt .f64 a) - V (floatOfInt .f64 b) = (a - b) * pw 1074 := by rw [ofInt_val a ha, ofInt_val b hb, Int.sub_mul]
  rw [ev, Int.natAbs_mul, Int.natAbs_natCast, ← nearest_pw _ _ 0 1074 (by decide)] at e
  refine ⟨_, e, nearest_small _ _ _ ?_, fun h => ?_⟩
  · by_cases hz : (a - b).natAbs = 0
    · rw [hz]; decide
    · have := (Nat.log2_lt (k := 64) hz).2 (by omega)
      omega
  · rw [(nearest_whole _ _ h).2]
    exact sgn_val (a - b) (pw 1074) _ (pw_pos _)
theorem nearest_pw2 (s : Bool) (m k : Nat) (p : Int) : Ieee.double.nearest s (m * pw k) (p - k) = Ieee.double.nearest s m p := nearest_scale Ieee.double s m k p
theorem whole_prod {a b : Int} (ha : a.natAbs ≤ 9007199254740992) (hb : b.natAbs ≤ 9007199254740992) : ∃ z, Ieee.double.mul (floatOfInt .f64 a) (floatOfInt .f64 b) = some z ∧ Fnt z ∧ ((a * b).natAbs ≤ 9007199254740992 → V z = (a * b) * pw 1074) := by
  have fa := ofInt_fin a (by omega)
  have fb := ofInt_fin b (by omega)
  have e := mul_fin fa fb
  have hm : (V (floatOfInt .f64 a)).natAbs * (V (floatOfInt .f64 b)).natAbs = (a.natAbs * b.natAbs) * pw 2148 := by
    rw [ofInt_val a ha, ofInt_val b hb, Int.natAbs_mul, Int.natAbs_mul, Int.natAbs_natCast, show pw 2148 = pw 1074 * pw 1074 from pw_add 1074 1074]
    generalize pw 1074 = t
    simp only [Nat.mul_assoc, Nat.mul_left_comm, Nat.mul_comm]
  rw [hm, show (-2148 : Int) = 0 - (2148 : Nat) by decide, nearest_pw2] at e
  have hbig : a.natAbs * b.natAbs ≤ 9007199254740992 * 9007199254740992 := Nat.mul_le_mul ha hb
  have sa : sg (floatOfInt .f64 a) = decide (a < 0) := nearest_sg _ _ _
  have sb : sg (floatOfInt .f64 b) = decide (b < 0) := nearest_sg _ _ _
  refine ⟨_, e, nearest_small _ _ _ ?_, fun h => ?_⟩
  · by_cases hz : a.natAbs * b.natAbs = 0
    · rw [hz]; decide
    · have := (Nat.log2_lt (k := 107) hz).2 (by omega)
      omega
  · rw [Int.natAbs_mul] at h
    rw [(nearest_whole _ _ h).2, sa, sb]
    exact prod_val a b (pw 1074)
theorem mul_one' {x : Nat} (hx : Fnt x) : Ieee.double.mul x 4607182418800017408 = some x := by
  rw [mul_fin hx one_fin, V_one, Int.natAbs_natCast, show (-2148 : Int) = -1074 - (1074 : Nat) by decide, nearest_pw2]
  rw [show (sg x ^^ sg 4607182418800017408) = sg x by rw [show sg 4607182418800017408 = false from rfl, Bool.xor_false], V_abs]
  exact congrArg some (nearest_fin hx)
theorem mul_mone {x : Nat} (hx : Num x) (h0 : V x < 0) : Ieee.double.mul x 13830554455654793216 = some (x % 9223372036854775808) := by
  rw [mul_fin hx.1 neg_fin, V_mone, Int.natAbs_neg, Int.natAbs_natCast, show (-2148 : Int) = -1074 - (1074 : Nat) by decide, nearest_pw2]
  rw [show (sg x ^^ sg 13830554455654793216) = false by rw [show sg 13830554455654793216 = true from rfl, sg_of hx, decide_eq_true h0]; rfl, V_abs]
  have h := nearest_fin (mod_fin hx.1)
  rw [show (x % 9223372036854775808 / 9223372036854775808 % 2 == 1) = false by simp, Nat.mod_mod] at h
  exact congrArg some h
theorem mod_pos {x : Nat} (hx : Num x) (h : 0 ≤ V x) : x % 9223372036854775808 = x := by
  have h1 := sg_of hx
  rw [decide_eq_false (by omega)] at h1
  unfold sg at h1
  have := hx.1.1
  simp at h1; omega
theorem fl_le {x : Nat} (hx : Num x) : FloatKind.f64.format.order (fl x) x = some .lt ∨ FloatKind.f64.format.order (fl x) x = some .eq := by
  obtain ⟨h1, h2⟩ := fl_spec hx
  have hp : (0 : Int) < pw 1074 := by exact_mod_cast pw_pos 1074
  have h3 := Int.ediv_mul_le (V x) (b := (pw 1074 : Int)) (by omega)
  rcases ord_cases h1.1 hx.1 with h | h | h
  · exact .inl h.2
  · exact .inr h.2
  · have := h.1; omega
theorem cl_ge {x : Nat} (hx : Num x) : FloatKind.f64.format.order (ze (cl x)) x = some .gt ∨ FloatKind.f64.format.order (ze (cl x)) x = some .eq := by
  obtain ⟨h1, h2⟩ := cl_spec hx
  have hp : (0 : Int) < pw 1074 := by exact_mod_cast pw_pos 1074
  have h3 := Int.ediv_mul_le (-V x) (b := (pw 1074 : Int)) (by omega)
  have h4 : V (ze (cl x)) = V (cl x) := ze_val
  rcases ord_cases (ze_num h1).1 hx.1 with h | h | h
  · have := h.1; omega
  · exact .inr h.2
  · exact .inl h.2
end Go.Proofs.YtbdhibcbpgjbmaaGreatDoor

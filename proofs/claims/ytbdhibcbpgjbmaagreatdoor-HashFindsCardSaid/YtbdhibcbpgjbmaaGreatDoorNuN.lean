/- Floats as whole numbers of units: whole numbers below and above, greater and lesser. Plain mathematics. -/
import Derived.Test.YtbdhibcbpgjbmaaGreatDoorNuM
namespace Go.Proofs.YtbdhibcbpgjbmaaGreatDoor.Fl
set_option maxRecDepth 100000
open Ieee
theorem V_pos (r : Nat) (h : r < 9223372036854775808) : V r = (U r : Int) := by
  unfold V
  rw [if_neg (by simp; omega), Nat.mod_eq_of_lt h]
theorem V_neg (r : Nat) (h : r < 9223372036854775808) : V (9223372036854775808 + r) = -(U r : Int) := by
  unfold V
  rw [if_pos (by simp; omega), show (9223372036854775808 + r) % 9223372036854775808 = r by omega]
theorem U_top : U 4845873199050653696 = 9007199254740992 * pw 1074 := by
  have h := U_eq 1075 0 (by decide)
  rw [show (1075 + 1) * 4503599627370496 + 0 = 4845873199050653696 from rfl, show pw 1075 = pw 1 * pw 1074 from pw_add 1 1074, show pw 1 = 2 from rfl] at h
  rw [h]
  generalize pw 1074 = t
  omega
theorem V_top : V 4845873199050653696 = 9007199254740992 * (pw 1074 : Int) := by
  rw [V_pos _ (by decide), U_top, Int.natCast_mul]; rfl
theorem V_bot : V 14069245235905429504 = -(9007199254740992 * (pw 1074 : Int)) := by
  rw [show 14069245235905429504 = 9223372036854775808 + 4845873199050653696 from rfl, V_neg _ (by decide), U_top, Int.natCast_mul]; rfl
theorem top_fin : Fnt 4845873199050653696 := ⟨by decide, by decide⟩
theorem bot_fin : Fnt 14069245235905429504 := ⟨by decide, by decide⟩
theorem one_fin : Fnt 4607182418800017408 := ⟨by decide, by decide⟩
theorem neg_fin : Fnt 13830554455654793216 := ⟨by decide, by decide⟩
theorem U_one : U 4607182418800017408 = pw 1074 := by
  have h := U_eq 1022 0 (by decide)
  rw [show (1022 + 1) * 4503599627370496 + 0 = 4607182418800017408 from rfl] at h
  rw [h, show pw 1074 = pw 52 * pw 1022 from pw_add 52 1022, show pw 52 = 4503599627370496 from rfl]
theorem V_one : V 4607182418800017408 = pw 1074 := by rw [V_pos _ (by decide), U_one]
theorem V_mone : V 13830554455654793216 = -(pw 1074 : Int) := by
  rw [show 13830554455654793216 = 9223372036854775808 + 4607182418800017408 from rfl, V_neg _ (by decide), U_one]
theorem sg_of {x : Nat} (hx : Num x) : sg x = decide (V x < 0) := by
  have h1 := V_sg x
  cases hs : sg x
  · rw [hs] at h1; simp at h1; symm; rw [decide_eq_false_iff_not]; omega
  · rw [hs] at h1
    simp at h1
    symm; rw [decide_eq_true_iff]
    by_cases hz : V x = 0
    · have := hx.2 (V_eq_zero.1 hz); subst this; cases hs
    · omega
/-- A value that some rung has: the word of it and its sign. -/
theorem num_rung (u r : Nat) (s : Bool) (hr : r < 9218868437227405312) (h : U r = u) (hs : u = 0 → s = false) : Num (double.nearest s u (-1074)) ∧ V (double.nearest s u (-1074)) = if s then -(u : Int) else u := by
  obtain ⟨h1, h2⟩ := nearest_rung s u r hr h
  refine ⟨⟨h1, fun e => ?_⟩, h2⟩
  rw [← V_eq_zero, h2] at e
  have hu : u = 0 := by cases s <;> simp at e <;> omega
  rw [hs hu, hu]
  simp [Format.nearest, Format.word]
/-- A word's value taken away from nothing. -/
theorem neg_word {x : Nat} (hx : Num x) : ∃ z, double.sub 0 x = some z ∧ Num z ∧ V z = -V x := by
  refine ⟨_, sub_fin fin_zero hx.1, ?_⟩
  rw [V_zero, Int.zero_sub, Int.natAbs_neg]
  obtain ⟨h1, h2⟩ := num_rung (V x).natAbs _ (if -V x = 0 then sg 0 && !sg x else decide (-V x < 0)) hx.1.2 (V_abs x).symm (fun e => by rw [if_pos (by omega)]; rfl)
  refine ⟨h1, ?_⟩
  rw [h2]
  by_cases h0 : -V x = 0
  · rw [if_pos h0]; simp [sg]; omega
  · rw [if_neg h0]
    by_cases h3 : -V x < 0
    · simp; omega
    · simp; omega
/-- A word plus nothing. -/
theorem add_zero {x : Nat} (hx : Fnt x) : double.add x 0 = some (ze x) := by
  rw [add_fin hx fin_zero, V_zero, Int.add_zero]
  congr 1
  have h1 := nearest_fin hx
  unfold ze
  by_cases h0 : x % 9223372036854775808 = 0
  · rw [if_pos h0, if_pos (V_eq_zero.2 h0), V_eq_zero.2 h0, show (sg 0) = false from rfl, Bool.and_false]
    simp [Format.nearest, Format.word]
  · have h2 : V x ≠ 0 := fun e => h0 (V_eq_zero.1 e)
    rw [if_neg h0, if_neg h2, V_abs]
    have h3 : decide (V x < 0) = sg x := by
      rw [V_sg] at h2 ⊢
      cases sg x <;> simp at h2 ⊢ <;> omega
    rw [h3]; exact h1
theorem U_big {r : Nat} (h : 4845873199050653696 ≤ r) : U r % pw 1074 = 0 := by
  obtain ⟨q, hq⟩ : ∃ q, r / 4503599627370496 = (q + 1074) + 1 := ⟨r / 4503599627370496 - 1075, by omega⟩
  have h2 := U_eq (q + 1074) (r % 4503599627370496) (by omega)
  rw [show (q + 1074 + 1) * 4503599627370496 + r % 4503599627370496 = r by omega] at h2
  rw [h2, pw_add, ← Nat.mul_assoc, Nat.mul_mod_left]
/-- The word of the greatest whole number that isn't greater; of the least one that isn't less. -/
def fl (x : Nat) : Nat := double.nearest (sg x) ((V x).natAbs / pw 1074 + (sg x && (V x).natAbs % pw 1074 != 0).toNat) 0
def cl (x : Nat) : Nat := double.nearest (sg x) ((V x).natAbs / pw 1074 + (!sg x && (V x).natAbs % pw 1074 != 0).toNat) 0
theorem num_whole (s : Bool) (n : Nat) (h : n ≤ 9007199254740992) (hs : n = 0 → s = false) : Num (double.nearest s n 0) ∧ V (double.nearest s n 0) = if s then -((n * pw 1074 : Nat) : Int) else (n * pw 1074 : Nat) := by
  obtain ⟨r, h1, h2⟩ := whole_rung n 1074 (by decide) h
  rw [nearest_pw s n 0 1074 (by decide)]
  refine num_rung _ r s h1 h2 fun e => hs ?_
  have := pw_pos 1074
  rcases Nat.mul_eq_zero.1 e with e | e
  · exact e
  · omega
/-- What is whole already, stays. -/
theorem whole_stays {x : Nat} (hx : Fnt x) (h : (V x).natAbs % pw 1074 = 0) : double.nearest (sg x) ((V x).natAbs / pw 1074) 0 = x := by
  rw [nearest_pw _ _ 0 1074 (by decide), Nat.div_mul_cancel (Nat.dvd_of_mod_eq_zero h), V_abs]
  exact nearest_fin hx
theorem big_whole {x : Nat} (h : 9007199254740992 * pw 1074 ≤ (V x).natAbs) : (V x).natAbs % pw 1074 = 0 := by
  rw [V_abs] at h ⊢
  refine U_big ?_
  rcases Nat.lt_or_ge (x % 9223372036854775808) 4845873199050653696 with h' | h'
  · have := U_mono h'; rw [U_top] at this; omega
  · exact h'
theorem div_parts (v : Int) (t : Nat) (ht : 0 < t) : v / (t : Int) = if v < 0 then -((v.natAbs / t + (if v.natAbs % t = 0 then 0 else 1) : Nat) : Int) else ((v.natAbs / t : Nat) : Int) := by
  by_cases hv : v < 0
  · rw [if_pos hv]
    obtain ⟨m, rfl⟩ : ∃ m : Nat, v = -(m : Int) := ⟨v.natAbs, by omega⟩
    rw [Int.natAbs_neg, Int.natAbs_natCast]
    have h1 := Nat.div_add_mod m t
    have h2 := Nat.mod_lt m ht
    generalize m / t = q at *
    generalize m % t = r at *
    have h3 : (m : Int) = t * q + r := by exact_mod_cast h1.symm
    rw [h3]
    split
    · subst_vars
      have : -((t : Int) * q + (0 : Nat)) = -(q : Int) * t := by rw [Int.neg_mul, Int.mul_comm (q : Int)]; simp
      rw [this, Int.mul_ediv_cancel _ (by omega)]; simp
    · have : -((t : Int) * q + r) = (t - r : Int) + -(q + 1 : Int) * t := by rw [Int.neg_mul, Int.add_mul, Int.one_mul, Int.mul_comm (q : Int)]; omega
      rw [this, Int.add_mul_ediv_right _ _ (by omega), Int.ediv_eq_zero_of_lt (by omega) (by omega)]; simp
  · rw [if_neg hv]
    obtain ⟨m, rfl⟩ : ∃ m : Nat, v = (m : Int) := ⟨v.natAbs, by omega⟩
    simp
theorem dvd_of_abs {v : Int} {t : Nat} (h : v.natAbs % t = 0) : (t : Int) ∣ v := Int.ofNat_dvd_left.2 (Nat.dvd_of_mod_eq_zero h)
theorem sub_abs (v : Int) : (0 ≤ v → v = v.natAbs) ∧ (v < 0 → v = -(v.natAbs : Int)) := ⟨fun _ => by omega, fun _ => by omega⟩
theorem bne_nat (m : Nat) : (m != 0).toNat = if m = 0 then 0 else 1 := by by_cases h : m = 0 <;> simp [h]
theorem fl_small {x : Nat} (hx : Num x) (u t : Nat) (hu : (V x).natAbs = u) (ht : pw 1074 = t) (hb : u < 9007199254740992 * t) : Num (fl x) ∧ V (fl x) = V x / (t : Int) * t := by
  have hsg := sg_of hx
  have htp : 0 < t := ht ▸ pw_pos 1074
  have hq : u / t < 9007199254740992 := (Nat.div_lt_iff_lt_mul htp).2 hb
  unfold fl
  rw [hu, ht]
  by_cases hv : V x < 0
  · have hs : sg x = true := by rw [hsg]; exact decide_eq_true hv
    rw [hs, Bool.true_and, div_parts _ _ htp, if_pos hv, hu]
    have hpos : u / t + (u % t != 0).toNat ≠ 0 := by
      intro e
      have h5 := Nat.div_add_mod u t
      obtain ⟨e1, e2⟩ := Nat.add_eq_zero_iff.1 e
      have e3 : u % t = 0 := by simpa using e2
      rw [e1, e3, Nat.mul_zero] at h5; omega
    have h1 := num_whole true (u / t + (u % t != 0).toNat) (by have := Bool.toNat_le (u % t != 0); omega) (fun e => absurd e hpos)
    refine ⟨h1.1, ?_⟩
    rw [h1.2, ht, if_pos rfl, bne_nat]
    by_cases h0 : u % t = 0 <;> simp [h0, Int.neg_mul]
  · have hs : sg x = false := by rw [hsg]; exact decide_eq_false hv
    rw [hs, Bool.false_and, div_parts _ _ htp, if_neg hv, hu]
    have h1 := num_whole false (u / t + false.toNat) (by simp; omega) (fun _ => rfl)
    refine ⟨h1.1, ?_⟩
    rw [h1.2, ht]; simp
theorem fl_spec {x : Nat} (hx : Num x) : Num (fl x) ∧ V (fl x) = V x / (pw 1074 : Int) * pw 1074 := by
  rcases Nat.lt_or_ge (V x).natAbs (9007199254740992 * pw 1074) with hb | hb
  · exact fl_small hx _ _ rfl rfl hb
  · have h0 := big_whole hb
    have e : fl x = x := by
      unfold fl
      rw [h0]
      simpa using whole_stays hx.1 h0
    rw [e]
    refine ⟨hx, ?_⟩
    have h2 : (pw 1074 : Int) ∣ V x := dvd_of_abs h0
    rw [Int.ediv_mul_cancel h2]
theorem cl_small {x : Nat} (hx : Num x) (u t : Nat) (hu : (V x).natAbs = u) (ht : pw 1074 = t) (hb : u < 9007199254740992 * t) : Fnt (cl x) ∧ V (cl x) = -(-V x / (t : Int) * t) := by
  have hsg := sg_of hx
  have htp : 0 < t := ht ▸ pw_pos 1074
  have hq : u / t < 9007199254740992 := (Nat.div_lt_iff_lt_mul htp).2 hb
  unfold cl
  rw [hu, ht]
  by_cases hv : V x < 0
  · have hs : sg x = true := by rw [hsg]; exact decide_eq_true hv
    rw [hs, Bool.not_true, Bool.false_and, div_parts _ _ htp, if_neg (by omega), Int.natAbs_neg, hu]
    have h1 := nearest_whole true (u / t + false.toNat) (by simp; omega)
    refine ⟨h1.1, ?_⟩
    rw [h1.2, ht, if_pos rfl]; simp
  · have hs : sg x = false := by rw [hsg]; exact decide_eq_false hv
    rw [hs, Bool.not_false, Bool.true_and, div_parts _ _ htp, Int.natAbs_neg, hu]
    have h1 := nearest_whole false (u / t + (u % t != 0).toNat) (by have := Bool.toNat_le (u % t != 0); omega)
    refine ⟨h1.1, ?_⟩
    rw [h1.2, ht, if_neg Bool.false_ne_true]
    by_cases hz : -V x < 0
    · rw [if_pos hz, bne_nat]
      by_cases h0 : u % t = 0 <;> simp [h0, Int.neg_mul]
    · have : u = 0 := by omega
      subst this
      rw [if_neg hz]; simp
theorem cl_spec {x : Nat} (hx : Num x) : Fnt (cl x) ∧ V (cl x) = -(-V x / (pw 1074 : Int) * pw 1074) := by
  rcases Nat.lt_or_ge (V x).natAbs (9007199254740992 * pw 1074) with hb | hb
  · exact cl_small hx _ _ rfl rfl hb
  · have h0 := big_whole hb
    have e : cl x = x := by
      unfold cl
      rw [h0]
      simpa using whole_stays hx.1 h0
    rw [e]
    refine ⟨hx.1, ?_⟩
    have h2 : (pw 1074 : Int) ∣ -V x := Int.dvd_neg.2 (dvd_of_abs h0)
    rw [Int.ediv_mul_cancel h2]; omega
theorem div_some {a b : Nat} (ha : Fnt a) (hb : Fnt b) (h : V b ≠ 0) : ∃ z, double.div a b = some z := by
  obtain ⟨m, k, h1, _, h2⟩ := read_fin' ha
  obtain ⟨n, j, g1, _, g2⟩ := read_fin' hb
  have hn : n ≠ 0 := by
    intro e; subst e; rw [Nat.zero_mul] at g2; omega
  unfold Format.div
  rw [h1, g1]
  simp only [Datum.quotient, if_neg hn]
  exact ⟨_, rfl⟩
theorem add_comm' (a b : Nat) (ha : Fnt a) (hb : Fnt b) : double.add a b = double.add b a := by
  rw [add_fin ha hb, add_fin hb ha, Int.add_comm, Bool.and_comm]
theorem mul_comm' (a b : Nat) (ha : Fnt a) (hb : Fnt b) : double.mul a b = double.mul b a := by
  rw [mul_fin ha hb, mul_fin hb ha, Nat.mul_comm, Bool.xor_comm]
theorem sub_self' (a : Nat) (ha : Fnt a) : double.sub a a = some 0 := by
  rw [sub_fin ha ha, Int.sub_self]
  cases sg a <;> simp [Format.nearest, Format.word]
end Go.Proofs.YtbdhibcbpgjbmaaGreatDoor.Fl

/- Layer 15, plain: places that are turned, taken, dropped, copied, and picked along an axis. -/
import Derived.Test.YtbdhibcbpgjbmaaGreatDoorVeI
import Derived.Test.YtbdhibcbpgjbmaaGreatDoorNuN
namespace Go.Proofs.YtbdhibcbpgjbmaaGreatDoor
set_option maxRecDepth 100000
open Go.RowKit Fl
set_option linter.unusedVariables false

/-- What Rolled tells. -/
def rolF (n : Nat) (b : Int) (i : Nat) : Int := ((i : Int) + b) % (n : Int)
def rolL (n : Nat) (b : Int) : List Int := (List.range n).map (rolF n b)
theorem tmod_form (n : Nat) (b : Int) : ∃ q : Int, b = (n : Int) * q + b.tmod n := ⟨b.tdiv n, (Int.mul_tdiv_add_tmod b n).symm⟩
theorem rol_mod (n : Nat) (b : Int) (i : Nat) : rolF n b i = ((i : Int) + b.tmod n) % (n : Int) := by
 obtain ⟨q, hq⟩ := tmod_form n b
 unfold rolF
 generalize b.tmod n = r at hq
 subst hq
 rw [show (i : Int) + ((n : Int) * q + r) = (i : Int) + r + (n : Int) * q by omega, Int.add_mul_emod_self_left]
theorem rol_prog {n : Nat} {b : Int} (i : Nat) (hn : 0 < n) : ((i : Int) + (b.tmod n + n)).tmod n = rolF n b i := by
 have h2 := Int.lt_tmod_of_pos b (b := (n : Int)) (by omega)
 rw [rol_mod, Int.tmod_eq_emod_of_nonneg (by omega), ← Int.add_assoc, Int.add_emod_right]
theorem rol_ref {n : Nat} {b : Int} {i : Nat} {k : Int} (hi : i < n) (hk : (i : Int) + b.tmod n = k) : rolF n b i = if k < 0 then k + n else if (n : Int) ≤ k then k - n else k := by
 have h1 := Int.tmod_lt_of_pos b (b := (n : Int)) (by omega)
 have h2 := Int.lt_tmod_of_pos b (b := (n : Int)) (by omega)
 rw [rol_mod, hk]
 by_cases h3 : k < 0
 ·rw [if_pos h3, ← Int.add_emod_right, Int.emod_eq_of_lt (by omega) (by omega)]
 ·rw [if_neg h3]
  by_cases h4 : (n : Int) ≤ k
  ·rw [if_pos h4, show k = k - n + n by omega, Int.add_emod_right, Int.emod_eq_of_lt (by omega) (by omega)]; omega
  ·rw [if_neg h4, Int.emod_eq_of_lt (by omega) (by omega)]
theorem rol_bd {n : Nat} {b : Int} {i : Nat} (hi : i < n) : 0 ≤ rolF n b i ∧ rolF n b i < n := ⟨Int.emod_nonneg _ (by omega), Int.emod_lt_of_pos _ (by omega)⟩

/-- What Taken tells: from the first place on, or up to the last one. -/
def takA (n : Nat) (many : Int) : Int := if many < 0 then (n : Int) + many else 0
def takF (n : Nat) (many : Int) (i : Nat) : Int := if 0 ≤ takA n many + (i : Int) ∧ takA n many + (i : Int) < n then takA n many + (i : Int) else -1
def takL (n : Nat) (many : Int) : List Int := (List.range many.natAbs).map (takF n many)
/-- What Dropped tells. -/
def drpA (n : Nat) (many : Int) : Nat := if many < 0 then 0 else min many.toNat n
def drpZ (n : Nat) (many : Int) : Nat := if many < 0 then n - min many.natAbs n else n - min many.toNat n
def drpF (n : Nat) (many : Int) (i : Nat) : Int := (drpA n many : Int) + (i : Int)
def drpL (n : Nat) (many : Int) : List Int := (List.range (drpZ n many)).map (drpF n many)
theorem drp_le (n : Nat) (many : Int) : drpA n many + drpZ n many ≤ n := by unfold drpA drpZ; split <;> omega
theorem drp_len (n : Nat) (many : Int) : (drpL n many).length = drpZ n many := by simp [drpL]
theorem tak_len (n : Nat) (many : Int) : (takL n many).length = many.natAbs := by simp [takL]
/-- What the reference's Dropped tells of the first places. -/
def drpT (n : Nat) (many : Int) (k : Nat) : List Int := (List.range (min (k - drpA n many) (drpZ n many))).map (drpF n many)
theorem drpT_zero (n : Nat) (many : Int) : drpT n many 0 = [] := by simp [drpT]
theorem drpT_all (n : Nat) (many : Int) : drpT n many n = drpL n many := by
 unfold drpT drpL
 rw [show min (n - drpA n many) (drpZ n many) = drpZ n many by have := drp_le n many; omega]
theorem drpT_yes {n k : Nat} {many : Int} (hk : k < n) (h : (many ≥ 0 ∧ (k : Int) ≥ many) ∨ (many < 0 ∧ (k : Int) < n + many)) : drpT n many (k + 1) = drpT n many k ++ [(k : Int)] := by
 have e : min (k + 1 - drpA n many) (drpZ n many) = min (k - drpA n many) (drpZ n many) + 1 ∧ ((drpA n many : Int) + ((min (k - drpA n many) (drpZ n many) : Nat) : Int) = k) := by
  unfold drpA drpZ; split <;> omega
 unfold drpT
 rw [e.1, List.range_succ, List.map_append, List.map_cons, List.map_nil]
 congr 1
 unfold drpF
 rw [e.2]
theorem drpT_no {n k : Nat} {many : Int} (hk : k < n) (h : ¬ ((many ≥ 0 ∧ (k : Int) ≥ many) ∨ (many < 0 ∧ (k : Int) < n + many))) : drpT n many (k + 1) = drpT n many k := by
 unfold drpT
 rw [show min (k + 1 - drpA n many) (drpZ n many) = min (k - drpA n many) (drpZ n many) by unfold drpA drpZ; split <;> omega]

/-- What Copies tells of the first k elements. -/
def cpR (c : Int) (i : Nat) : List Int := List.replicate c.natAbs (if c < 0 then -1 else (i : Int))
def cpTo (s : List Int) (k : Nat) : List Int := (List.range k).flatMap fun i => cpR (s.getD i 0) i
theorem cpTo_zero (s : List Int) : cpTo s 0 = [] := rfl
theorem cpTo_succ (s : List Int) (k : Nat) : cpTo s (k + 1) = cpTo s k ++ cpR (s.getD k 0) k := by
 unfold cpTo; rw [List.range_succ, List.flatMap_append]; simp
theorem cpTo_mono (s : List Int) {k n : Nat} (h : k ≤ n) : (cpTo s k).length ≤ (cpTo s n).length := by
 induction n with
 | zero => rw [Nat.le_zero.1 h]; exact Nat.le_refl _
 | succ n ih =>
  by_cases h2 : k = n + 1
  ·rw [h2]; exact Nat.le_refl _
  ·rw [cpTo_succ, List.length_append]; have := ih (by omega); omega
theorem cpR_len (c : Int) (i : Nat) : (cpR c i).length = c.natAbs := by simp [cpR]
/-- The counts, one for each of n elements. -/
def cpS (l : List Int) (n : Nat) : List Int := if l.length = n then l else List.replicate n (l.getD 0 0)
theorem cpS_same {l : List Int} {n : Nat} (h : l.length = n) : cpS l n = l := if_pos h
theorem cpS_one {l : List Int} {n : Nat} (h : l.length ≠ n) : cpS l n = List.replicate n (l.getD 0 0) := if_neg h
theorem cpS_len (l : List Int) (n : Nat) : (cpS l n).length = n := by unfold cpS; split <;> simp [*]
theorem cpS_get {l : List Int} {n k : Nat} (hk : k < n) (h : l.length = n ∨ l.length = 1) : (cpS l n).getD k 0 = if 1 < l.length then l.getD k 0 else l.getD 0 0 := by
 unfold cpS
 by_cases h1 : l.length = n
 ·rw [if_pos h1]
  by_cases h2 : 1 < l.length
  ·rw [if_pos h2]
  ·rw [if_neg h2, show k = 0 by omega]
 ·rw [if_neg h1, if_neg (by omega)]
  simp [List.getD_eq_getElem?_getD, hk]
/-- What Copies tells of counts that are whole. -/
def cpEw (l : List Int) (n most : Nat) : Int := if l.length = n ∨ l.length = 1 then (if (cpTo (cpS l n) n).length ≤ most then 0 else 26) else 23
def cpLw (l : List Int) (n most : Nat) : List Int := if cpEw l n most = 0 then cpTo (cpS l n) n else []
def cpE (V : VV) (n most : Nat) : Int := if V.isWh = true then cpEw V.whs n most else 24
def cpL (V : VV) (n most : Nat) : List Int := if V.isWh = true then cpLw V.whs n most else []
theorem cpEw_23 {l : List Int} {n most : Nat} (h : ¬ (l.length = n ∨ l.length = 1)) : cpEw l n most = 23 ∧ cpLw l n most = [] := by
 have e : cpEw l n most = 23 := if_neg h
 exact ⟨e, by unfold cpLw; rw [e]; rfl⟩
theorem cpEw_26 {l : List Int} {n most : Nat} (h : l.length = n ∨ l.length = 1) (h2 : most < (cpTo (cpS l n) n).length) : cpEw l n most = 26 ∧ cpLw l n most = [] := by
 have e : cpEw l n most = 26 := by unfold cpEw; rw [if_pos h, if_neg (by omega)]
 exact ⟨e, by unfold cpLw; rw [e]; rfl⟩
theorem cpEw_0 {l : List Int} {n most : Nat} (h : l.length = n ∨ l.length = 1) (h2 : (cpTo (cpS l n) n).length ≤ most) : cpEw l n most = 0 ∧ cpLw l n most = cpTo (cpS l n) n := by
 have e : cpEw l n most = 0 := by unfold cpEw; rw [if_pos h, if_pos h2]
 exact ⟨e, by unfold cpLw; rw [e]; rfl⟩

/-- A whole number and one more, as floats. -/
theorem fl_one : floatOfInt .f64 1 = 4607182418800017408 := by decide +kernel
theorem fl_sum {k P : Nat} {x y : Nat} (hP : 0 < P) (hx : V x = (k : Int) * (P : Int)) (hy : V y = 1 * (P : Int)) : V x + V y = (((k + 1) * P : Nat) : Int) ∧ ¬ V x + V y = 0 ∧ decide (V x + V y < 0) = false ∧ (V x + V y).natAbs = (k + 1) * P := by
 have e : V x + V y = (((k + 1) * P : Nat) : Int) := by rw [hx, hy, ← Int.add_mul]; simp
 have h0 : 0 < (k + 1) * P := Nat.mul_pos (Nat.succ_pos k) hP
 refine ⟨e, ?_, ?_, ?_⟩
 ·rw [e]; omega
 ·rw [e]; exact decide_eq_false (by omega)
 ·rw [e]; exact Int.natAbs_natCast _
theorem fl_succ (k : Nat) (h : k + 1 ≤ 9007199254740992) : Ieee.double.add (floatOfInt .f64 (k : Int)) 4607182418800017408 = some (floatOfInt .f64 ((k + 1 : Nat) : Int)) := by
 rw [← fl_one]
 obtain ⟨h1, h2, h3, h4⟩ := fl_sum (pw_pos 1074) (ofInt_val (k : Int) (by omega)) (ofInt_val 1 (by decide))
 rw [add_fin (ofInt_fin _ (by omega)) (ofInt_fin 1 (by decide)), if_neg h2, h3, h4, ofInt_eq ((k + 1 : Nat) : Int), nearest_pw _ _ 0 1074 (by decide), decide_eq_false (show ¬ ((k + 1 : Nat) : Int) < 0 by omega), Int.natAbs_natCast]

/-- Along: the places in the vector. -/
def alF (n inner : Nat) (at_ : List Int) (k : Nat) : Int := if 0 ≤ at_.getD (k / inner % at_.length) 0 ∧ at_.getD (k / inner % at_.length) 0 < (n : Int) then (((k / inner / at_.length * n : Nat) : Int) + at_.getD (k / inner % at_.length) 0) * (inner : Int) + ((k % inner : Nat) : Int) else -1
def alZ (outer n inner : Nat) (at_ : List Int) : List Int := (List.range (outer * at_.length * inner)).map (alF n inner at_)
theorem alZ_len (outer n inner : Nat) (at_ : List Int) : (alZ outer n inner at_).length = outer * at_.length * inner := by simp [alZ]
/-- What the reference's Along tells at a place. -/
theorem alF_at {n inner m o i k : Nat} {at_ : List Int} (hm : at_.length = m) (hi : i < m) (hk : k < inner) : alF n inner at_ ((o * m + i) * inner + k) = if 0 ≤ at_.getD i 0 ∧ at_.getD i 0 < (n : Int) then (((o * n : Nat) : Int) + at_.getD i 0) * (inner : Int) + (k : Int) else -1 := by
 have h1 : ((o * m + i) * inner + k) / inner = o * m + i := by
  rw [Nat.mul_comm, Nat.mul_add_div (by omega), Nat.div_eq_of_lt hk, Nat.add_zero]
 have h2 : ((o * m + i) * inner + k) % inner = k := by
  rw [Nat.mul_comm, Nat.mul_add_mod, Nat.mod_eq_of_lt hk]
 have h3 : (o * m + i) % m = i := by rw [Nat.mul_comm, Nat.mul_add_mod, Nat.mod_eq_of_lt hi]
 have h4 : (o * m + i) / m = o := by rw [Nat.mul_comm, Nat.mul_add_div (by omega), Nat.div_eq_of_lt hi, Nat.add_zero]
 unfold alF
 rw [hm, h1, h2, h3, h4]
theorem al_in {n inner o outer k : Nat} {p : Int} (h0 : 0 ≤ p) (h1 : p < n) (ho : o < outer) (hk : k < inner) : ∃ j : Nat, (((o * n : Nat) : Int) + p) * (inner : Int) + (k : Int) = (j : Int) ∧ j < n * outer * inner ∧ j = (o * n + p.toNat) * inner + k := by
 obtain ⟨q, rfl⟩ := Int.eq_ofNat_of_zero_le h0
 refine ⟨(o * n + q) * inner + k, by simp, ?_, by simp⟩
 have h2 : q < n := by omega
 have h3 : o * n + q + 1 ≤ n * outer := by
  have : (o + 1) * n ≤ outer * n := Nat.mul_le_mul_right _ ho
  rw [Nat.add_mul, Nat.one_mul] at this
  rw [Nat.mul_comm n outer]; omega
 have h4 : (o * n + q + 1) * inner ≤ n * outer * inner := Nat.mul_le_mul_right _ h3
 rw [Nat.add_mul, Nat.one_mul] at h4
 omega
/-- A product that is within its bound. -/
theorem prod_div {a b c m : Nat} (h : a * b * c ≤ m) (hb : 0 < b) (hc : 0 < c) : a ≤ m / b / c := by
 rw [Nat.le_div_iff_mul_le hc, Nat.le_div_iff_mul_le hb]
 rw [Nat.mul_right_comm]; exact h
end Go.Proofs.YtbdhibcbpgjbmaaGreatDoor

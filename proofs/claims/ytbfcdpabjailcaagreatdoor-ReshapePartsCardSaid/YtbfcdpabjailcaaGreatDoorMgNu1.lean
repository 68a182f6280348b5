/- Merged: NuM, NuA, NuN, NuB, NuC, NuD, NuE, NuF, NuG, NuH. -/
import Derived.Laws.FloatArith
import Derived.Test.YtbfcdpabjailcaaGreatDoorRows
import Derived.WalkKit
import Derived.WalkSpells
import Derived.WalkLawsBesides
import Derived.Lib.Hide
import Derived.Laws.BitsAllLaws
import Derived.Laws.Externs
import Derived.IntWalk
import Derived.Deep.Draws
import Derived.LoopTactic
import Derived.Below
/- Floats of 64 bits as whole numbers of units: the value of a word, order, sums, products, whole numbers. Plain mathematics over the model's floats. -/
namespace Go.Proofs.YtbfcdpabjailcaaGreatDoor.Fl
set_option maxRecDepth 100000
open Ieee
theorem log2_scale (n k : Nat) (hn : n ≠ 0) : (n * 2 ^ k).log2 = n.log2 + k := by
  have h1 := Nat.log2_self_le hn
  have h2 := @Nat.lt_log2_self n
  have hp : 0 < 2 ^ k := Nat.two_pow_pos k
  refine (Nat.log2_eq_iff (Nat.mul_ne_zero hn (by omega))).2 ⟨?_, ?_⟩
  · rw [Nat.pow_add]; exact Nat.mul_le_mul_right _ h1
  · rw [show n.log2 + k + 1 = (n.log2 + 1) + k by omega, Nat.pow_add]; exact Nat.mul_lt_mul_of_pos_right h2 hp
/-- Rounding to even at a cut: both scaled alike. -/
theorem cut_scale (s : Bool) (n d k : Nat) (hn : n ≠ 0) : Toward.even.cut s (n * 2 ^ k) (d + k) = Toward.even.cut s n d := by
  have hl := log2_scale n k hn
  have hm : min (d + k) (n.log2 + k + 2) = min d (n.log2 + 2) + k := by omega
  unfold Toward.cut
  simp only [hl, hm]
  have hg : 1 <<< (min d (n.log2 + 2) + k) = (1 <<< min d (n.log2 + 2)) * 2 ^ k := by
    simp [Nat.shiftLeft_eq, Nat.pow_add]
  have hp : 0 < 2 ^ k := Nat.two_pow_pos k
  rw [hg]
  generalize 1 <<< min d (n.log2 + 2) = g
  rw [Nat.mul_div_mul_right _ _ hp, Nat.mul_mod_mul_right]
  have e1 : (g * 2 ^ k < 2 * (n % g * 2 ^ k)) ↔ (g < 2 * (n % g)) := by
    rw [← Nat.mul_assoc]; exact Nat.mul_lt_mul_right hp
  have e2 : (g * 2 ^ k == 2 * (n % g * 2 ^ k)) = (g == 2 * (n % g)) := by
    rw [Bool.eq_iff_iff]
    simp only [beq_iff_eq]
    rw [← Nat.mul_assoc]
    exact Nat.mul_left_inj (by omega)
  simp only [e1, e2]
theorem cut_none (way : Toward) (s : Bool) (n : Nat) : way.cut s n 0 = n := by
  unfold Toward.cut
  cases way <;> simp [Nat.mod_one]
theorem cut_exact (s : Bool) (n k : Nat) (hn : n ≠ 0) : Toward.even.cut s (n * 2 ^ k) k = n := by
  have := cut_scale s n 0 k hn
  rw [Nat.zero_add, cut_none] at this
  exact this
/-- The nearest word of a number depends on its value alone. -/
theorem nearest_scale (f : Format) (s : Bool) (m k : Nat) (p : Int) : f.nearest s (m * 2 ^ k) (p - k) = f.nearest s m p := by
  by_cases hm : m = 0
  · subst hm; simp [Format.nearest]
  have hp : 0 < 2 ^ k := Nat.two_pow_pos k
  have hmk : m * 2 ^ k ≠ 0 := Nat.mul_ne_zero hm (by omega)
  unfold Format.nearest
  rw [if_neg hm, if_neg hmk, log2_scale m k hm]
  have hlast : max (p - (k : Int) + ((m.log2 + k : Nat) : Int) - f.fractionBits) f.leastPlace = max (p + (m.log2 : Int) - f.fractionBits) f.leastPlace := by congr 1; push_cast; omega
  simp only [hlast]
  generalize max (p + (m.log2 : Int) - f.fractionBits) f.leastPlace = l
  have hk : Toward.even.cut s ((m * 2 ^ k) <<< (p - (k : Int) - l).toNat) (l - (p - (k : Int))).toNat = Toward.even.cut s (m <<< (p - l).toNat) (l - p).toNat := by
    rcases Int.le_total l (p - k) with h | h
    · have a : (l - (p - (k : Int))).toNat = 0 := by omega
      have b : (l - p).toNat = 0 := by omega
      have c : (p - l).toNat = (p - (k : Int) - l).toNat + k := by omega
      rw [a, b, cut_none, cut_none, c, Nat.shiftLeft_eq, Nat.shiftLeft_eq, Nat.pow_add, Nat.mul_assoc, Nat.mul_comm (2 ^ k)]
    · have a : (p - (k : Int) - l).toNat = 0 := by omega
      rw [a, Nat.shiftLeft_zero]
      rcases Int.le_total l p with h2 | h2
      · have b : (l - p).toNat = 0 := by omega
        obtain ⟨c, hc⟩ : ∃ c, (p - l).toNat = c := ⟨_, rfl⟩
        obtain ⟨d, hd⟩ : ∃ d, (l - (p - (k : Int))).toNat = d := ⟨_, rfl⟩
        have e : k = c + d := by omega
        rw [b, cut_none, hc, hd, e, Nat.shiftLeft_eq, Nat.pow_add, ← Nat.mul_assoc]
        exact cut_exact _ _ _ (Nat.mul_ne_zero hm (by have := Nat.two_pow_pos c; omega))
      · have b : (p - l).toNat = 0 := by omega
        have c : (l - (p - (k : Int))).toNat = (l - p).toNat + k := by omega
        rw [b, Nat.shiftLeft_zero, c]
        exact cut_scale _ _ _ _ hm
  rw [hk]
/-- .. in units of the least place. -/
theorem nearest_unit (f : Format) (s : Bool) (m : Nat) (p : Int) (k : Nat) (h : p = f.leastPlace + k) : f.nearest s m p = f.nearest s (m * 2 ^ k) f.leastPlace := by
  rw [← nearest_scale f s m k p]
  congr 1; omega

/-- The value of a rung in units of the least place. -/
def U (r : Nat) : Nat := if r < 4503599627370496 then r else (4503599627370496 + r % 4503599627370496) * 2 ^ (r / 4503599627370496 - 1)
/-- The value of a word in units. -/
def V (b : Nat) : Int := if b / 9223372036854775808 % 2 == 1 then -(U (b % 9223372036854775808) : Int) else (U (b % 9223372036854775808) : Int)
def Fnt (b : Nat) : Prop := b < 18446744073709551616 ∧ b % 9223372036854775808 < 9218868437227405312
theorem dbl_least : double.leastPlace = -1074 := by decide
theorem dbl_binade : double.binade = 4503599627370496 := by decide
theorem dbl_inf : double.infRung = 9218868437227405312 := by decide
theorem dbl_sw : double.signWeight = 9223372036854775808 := by decide
/-- A finite word reads as a number of its value. -/
theorem read_fin {b : Nat} (h : Fnt b) : ∃ (m k : Nat), double.read b = .number (b / 9223372036854775808 % 2 == 1) m (-1074 + k) ∧ m * 2 ^ k = U (b % 9223372036854775808) ∧ m < 9007199254740992 := by
  unfold Format.read
  simp only [dbl_sw, dbl_binade, dbl_inf, dbl_least]
  unfold U
  by_cases h1 : b % 9223372036854775808 < 4503599627370496
  · simp only [h1, if_true]
    exact ⟨b % 9223372036854775808, 0, by simp, by simp, by omega⟩
  · simp only [h1, if_false, h.2, if_true]
    exact ⟨_, _, rfl, rfl, by omega⟩
theorem U_zero {r : Nat} : U r = 0 ↔ r = 0 := by
  unfold U
  split
  · exact Iff.rfl
  · have := Nat.two_pow_pos (r / 4503599627370496 - 1)
    constructor
    · intro h; rcases Nat.mul_eq_zero.1 h with h | h <;> omega
    · intro h; omega
/-- The nearest rung of a rung's value is the rung. -/
theorem nearest_U (s : Bool) (r : Nat) (h : r < 9218868437227405312) : double.nearest s (U r) (-1074) = double.word s r := by
  by_cases hz : r = 0
  · subst hz; simp [U, Format.nearest]
  have hu : U r ≠ 0 := fun e => hz (U_zero.1 e)
  unfold Format.nearest
  rw [if_neg hu]
  simp only [dbl_least, dbl_binade, dbl_inf, show double.fractionBits = 52 from rfl]
  congr 1
  by_cases h1 : r < 9007199254740992
  · have e : U r = r := by
      unfold U; split
      · rfl
      · rw [show r / 4503599627370496 - 1 = 0 by omega]; omega
    have hl : r.log2 < 53 := (Nat.log2_lt hz).2 (by omega)
    rw [e, show max (-1074 + (r.log2 : Int) - (52 : Nat)) (-1074) = -1074 by omega]
    simp [cut_none]; omega
  · obtain ⟨q, hq⟩ : ∃ q, r / 4503599627370496 = q + 2 := ⟨r / 4503599627370496 - 2, by omega⟩
    have e : U r = (4503599627370496 + r % 4503599627370496) * 2 ^ (q + 1) := by
      unfold U; rw [if_neg (by omega), hq]; rfl
    have hl0 : (4503599627370496 + r % 4503599627370496).log2 = 52 := (Nat.log2_eq_iff (by omega)).2 ⟨by omega, by omega⟩
    have hl : (U r).log2 = 52 + (q + 1) := by rw [e, log2_scale _ _ (by omega), hl0]
    rw [hl, show max (-1074 + ((52 + (q + 1) : Nat) : Int) - (52 : Nat)) (-1074) = -1074 + ((q + 1 : Nat) : Int) by omega]
    rw [show (-1074 - (-1074 + ((q + 1 : Nat) : Int))).toNat = 0 by omega, show (-1074 + ((q + 1 : Nat) : Int) - -1074).toNat = q + 1 by omega, Nat.shiftLeft_zero, e, cut_exact _ _ _ (by omega)]
    omega
/-- A finite word, written again, is itself. -/
theorem word_fin {b : Nat} (h : b < 18446744073709551616) : double.word (b / 9223372036854775808 % 2 == 1) (b % 9223372036854775808) = b := by
  unfold Format.word
  rw [dbl_sw]
  split <;> rename_i h1 <;> simp at h1 <;> omega
theorem nearest_fin {b : Nat} (h : Fnt b) : double.nearest (b / 9223372036854775808 % 2 == 1) (U (b % 9223372036854775808)) (-1074) = b := by
  rw [nearest_U _ _ h.2, word_fin h.1]
/-- A value of at most 53 bits is a rung's. -/
theorem rung_of (m e : Nat) (hm : m < 9007199254740992) (he : e ≤ 1992) : ∃ r, r < 9218868437227405312 ∧ U r = m * 2 ^ e := by
  by_cases h0 : m = 0
  · exact ⟨0, by decide, by subst h0; simp [U]⟩
  have hl : m.log2 < 53 := (Nat.log2_lt h0).2 (by omega)
  have hl1 := Nat.log2_self_le h0
  have hl2 := @Nat.lt_log2_self m
  obtain ⟨t, ht⟩ : ∃ t, m.log2 + t = 52 := ⟨52 - m.log2, by omega⟩
  have ha : 4503599627370496 ≤ m * 2 ^ t := by
    have := Nat.mul_le_mul_right (2 ^ t) hl1
    rw [← Nat.pow_add, ht] at this; exact this
  have hb : m * 2 ^ t < 9007199254740992 := by
    have := Nat.mul_lt_mul_of_pos_right hl2 (Nat.two_pow_pos t)
    rw [← Nat.pow_add, show m.log2 + 1 + t = 53 by omega] at this; exact this
  rcases Nat.lt_or_ge e t with h | h
  · refine ⟨m * 2 ^ e, ?_, ?_⟩
    · have : m * 2 ^ e ≤ m * 2 ^ t := Nat.mul_le_mul_left _ (Nat.pow_le_pow_right (by decide) (by omega))
      omega
    · have : m * 2 ^ e ≤ m * 2 ^ (t - 1) := Nat.mul_le_mul_left _ (Nat.pow_le_pow_right (by decide) (by omega))
      have h3 : m * 2 ^ t = 2 * (m * 2 ^ (t - 1)) := by rw [show t = (t - 1) + 1 by omega, Nat.pow_succ]; simp; rw [Nat.mul_comm 2, Nat.mul_assoc]
      unfold U; rw [if_pos (by omega)]
  · obtain ⟨d, rfl⟩ : ∃ d, e = t + d := ⟨e - t, by omega⟩
    obtain ⟨a, hA⟩ : ∃ a, m * 2 ^ t = 4503599627370496 + a := ⟨m * 2 ^ t - 4503599627370496, by omega⟩
    have ha' : a < 4503599627370496 := by omega
    clear hl hl1 hl2 hb ha h
    refine ⟨(d + 1) * 4503599627370496 + a, by omega, ?_⟩
    rw [Nat.pow_add, ← Nat.mul_assoc, hA]
    have e1 : ((d + 1) * 4503599627370496 + a) % 4503599627370496 = a := by omega
    have e2 : ((d + 1) * 4503599627370496 + a) / 4503599627370496 - 1 = d := by omega
    have e3 : ¬ ((d + 1) * 4503599627370496 + a) < 4503599627370496 := by omega
    unfold U
    rw [if_neg e3, e1, e2]
theorem V_abs (b : Nat) : (V b).natAbs = U (b % 9223372036854775808) := by
  unfold V; split <;> simp
theorem signed_mul (s : Bool) (m up k : Nat) : signed s m up * (2 ^ k : Nat) = signed s m (up + k) := by
  unfold signed
  cases s <;> simp [Nat.shiftLeft_eq, Nat.pow_add, Int.mul_assoc, Int.neg_mul]
theorem signed_val (s : Bool) (m k : Nat) : signed s m k = if s then -((m * 2 ^ k : Nat) : Int) else ((m * 2 ^ k : Nat) : Int) := by
  unfold signed; cases s <;> simp [Nat.shiftLeft_eq]
theorem compare_scale (x y : Int) (k : Nat) : compare (x * (2 ^ k : Nat)) (y * (2 ^ k : Nat)) = compare x y := by
  have hp : (0 : Int) < (2 ^ k : Nat) := by exact_mod_cast Nat.two_pow_pos k
  rcases Int.lt_trichotomy x y with h | h | h
  · rw [Int.compare_eq_lt.2 h, Int.compare_eq_lt.2 (Int.mul_lt_mul_of_pos_right h hp)]
  · rw [h, Int.compare_eq_eq.2 rfl, Int.compare_eq_eq.2 rfl]
  · rw [Int.compare_eq_gt.2 h, Int.compare_eq_gt.2 (Int.mul_lt_mul_of_pos_right h hp)]
/-- Two finite words stand to each other as their values do. -/
theorem order_fin {a b : Nat} (ha : Fnt a) (hb : Fnt b) : double.order a b = some (compare (V a) (V b)) := by
  obtain ⟨m, k, h1, h2, _⟩ := read_fin ha
  obtain ⟨n, j, g1, g2, _⟩ := read_fin hb
  unfold Format.order
  rw [h1, g1]
  simp only [Datum.order]
  congr 1
  obtain ⟨u, hu⟩ : ∃ u, min k j = u := ⟨_, rfl⟩
  rw [show min (-1074 + (k : Int)) (-1074 + (j : Int)) = -1074 + (u : Int) by omega,
    show (-1074 + (k : Int) - (-1074 + (u : Int))).toNat = k - u by omega, show (-1074 + (j : Int) - (-1074 + (u : Int))).toNat = j - u by omega,
    ← compare_scale _ _ u, signed_mul, signed_mul, show k - u + u = k by omega, show j - u + u = j by omega, signed_val, signed_val, h2, g2]
  rfl
theorem natAbs_scale (x : Int) (k : Nat) : (x * (2 ^ k : Nat)).natAbs = x.natAbs * 2 ^ k := by
  rw [Int.natAbs_mul]; simp
/-- The sum of two finite words: the word nearest to the sum of their values. -/
theorem sum_fin {s t : Bool} {m k n j : Nat} {x y : Int} (h2 : signed s m k = x) (g2 : signed t n j = y) :
    ((Datum.number s m (-1074 + k)).sum (Datum.number t n (-1074 + j))).map double.write = some (double.nearest (if x + y = 0 then s && t else decide (x + y < 0)) (x + y).natAbs (-1074)) := by
  obtain ⟨u, hu⟩ : ∃ u, min k j = u := ⟨_, rfl⟩
  simp only [Datum.sum, Option.map_some, Format.write]
  rw [show min (-1074 + (k : Int)) (-1074 + (j : Int)) = -1074 + (u : Int) by omega,
    show (-1074 + (k : Int) - (-1074 + (u : Int))).toNat = k - u by omega, show (-1074 + (j : Int) - (-1074 + (u : Int))).toNat = j - u by omega]
  have hx : signed s m (k - u) * (2 ^ u : Nat) = x := by rw [signed_mul, show k - u + u = k by omega, h2]
  have hy : signed t n (j - u) * (2 ^ u : Nat) = y := by rw [signed_mul, show j - u + u = j by omega, g2]
  rw [← hx, ← hy, ← Int.add_mul, natAbs_scale]
  generalize signed s m (k - u) + signed t n (j - u) = z
  have nu := fun s => nearest_unit double s z.natAbs (-1074 + u) u (by rw [dbl_least])
  simp only [dbl_least] at nu
  rw [← nu]
  have hp : (0 : Int) < (2 ^ u : Nat) := by exact_mod_cast Nat.two_pow_pos u
  have e1 : (z * (2 ^ u : Nat) = 0) ↔ z = 0 := by
    rw [Int.mul_eq_zero]; constructor
    · rintro (h | h)
      · exact h
      · omega
    · intro h; exact .inl h
  have e2 : (z * (2 ^ u : Nat) < 0) ↔ z < 0 := by
    constructor
    · intro h
      rcases Int.lt_or_le z 0 with h' | h'
      · exact h'
      · have := Int.mul_nonneg h' (Int.le_of_lt hp); omega
    · intro h
      have := Int.mul_lt_mul_of_pos_right h hp
      rwa [Int.zero_mul] at this
  simp only [e1, e2]
def sg (b : Nat) : Bool := b / 9223372036854775808 % 2 == 1
theorem read_fin' {b : Nat} (h : Fnt b) : ∃ (m k : Nat), double.read b = .number (sg b) m (-1074 + k) ∧ signed (sg b) m k = V b ∧ m * 2 ^ k = (V b).natAbs := by
  obtain ⟨m, k, h1, h2, _⟩ := read_fin h
  exact ⟨m, k, h1, by rw [signed_val, h2]; rfl, by rw [h2, V_abs]⟩
theorem add_fin {a b : Nat} (ha : Fnt a) (hb : Fnt b) : double.add a b = some (double.nearest (if V a + V b = 0 then sg a && sg b else decide (V a + V b < 0)) (V a + V b).natAbs (-1074)) := by
  obtain ⟨m, k, h1, h2, _⟩ := read_fin' ha
  obtain ⟨n, j, g1, g2, _⟩ := read_fin' hb
  unfold Format.add
  rw [h1, g1]
  exact sum_fin h2 g2
/-- A cut that isn't to the nearest: by division. -/
theorem cut_div (way : Toward) (s : Bool) (n d : Nat) (hw : way ≠ .even) :
    way.cut s n d = n / 2 ^ d + (match way with | .down => s && n % 2 ^ d != 0 | .up => !s && n % 2 ^ d != 0 | _ => false).toNat := by
  have key : n / (1 <<< min d (n.log2 + 2)) = n / 2 ^ d ∧ (n % (1 <<< min d (n.log2 + 2)) != 0) = (n % 2 ^ d != 0) := by
    rw [Nat.shiftLeft_eq, Nat.one_mul]
    rcases Nat.le_total d (n.log2 + 2) with h | h
    · rw [Nat.min_eq_left h]; exact ⟨rfl, rfl⟩
    · rw [Nat.min_eq_right h]
      have a1 : n < 2 ^ (n.log2 + 2) := Nat.lt_of_lt_of_le (@Nat.lt_log2_self n) (Nat.pow_le_pow_right (by decide) (by omega))
      have a2 : n < 2 ^ d := Nat.lt_of_lt_of_le a1 (Nat.pow_le_pow_right (by decide) h)
      rw [Nat.div_eq_of_lt a1, Nat.div_eq_of_lt a2, Nat.mod_eq_of_lt a1, Nat.mod_eq_of_lt a2]
      exact ⟨rfl, rfl⟩
  unfold Toward.cut
  simp only [key.1]
  cases way <;> simp only [key.2] <;> first | rfl | exact absurd rfl hw
theorem cut_zero (s : Bool) (n d : Nat) : Toward.zero.cut s n d = n / 2 ^ d := by rw [cut_div .zero s n d (by decide)]; rfl
theorem integral_num (s : Bool) (m k K : Nat) (way : Toward) (hw : way ≠ .even) : (Datum.number s m (-(K : Int) + k)).integral way = .number s (way.cut s (m * 2 ^ k) K) 0 := by
  simp only [Datum.integral]
  congr 1
  rcases Nat.le_total k K with hk | hk
  · obtain ⟨d, rfl⟩ : ∃ d, K = d + k := ⟨K - k, by omega⟩
    rw [show (-((d + k : Nat) : Int) + (k : Int)).toNat = 0 by omega, show (-(-((d + k : Nat) : Int) + (k : Int))).toNat = d by omega, Nat.shiftLeft_zero]
    have hp : 0 < 2 ^ k := Nat.two_pow_pos k
    rw [cut_div way _ _ _ hw, cut_div way _ _ _ hw, Nat.pow_add, Nat.mul_div_mul_right _ _ hp, Nat.mul_mod_mul_right]
    have e : (m % 2 ^ d * 2 ^ k != 0) = (m % 2 ^ d != 0) := by
      rw [Bool.eq_iff_iff]; simp only [bne_iff_ne, ne_eq, Nat.mul_eq_zero]; omega
    rw [e]
  · obtain ⟨d, rfl⟩ : ∃ d, k = d + K := ⟨k - K, by omega⟩
    rw [show (-(K : Int) + ((d + K : Nat) : Int)).toNat = d by omega, show (-(-(K : Int) + ((d + K : Nat) : Int))).toNat = 0 by omega, cut_none, Nat.shiftLeft_eq,
      cut_div way _ _ _ hw, Nat.pow_add, ← Nat.mul_assoc, Nat.mul_div_cancel _ (Nat.two_pow_pos K), Nat.mul_mod_left]
    cases way <;> simp
/-- 2 to the power, not to be worked out. -/
def pw (k : Nat) : Nat := 2 ^ k
theorem pw_pos (k : Nat) : 0 < pw k := Nat.two_pow_pos k
theorem pw_add (j k : Nat) : pw (j + k) = pw j * pw k := Nat.pow_add ..
theorem cut_zero' (s : Bool) (n d : Nat) : Toward.zero.cut s n d = n / pw d := cut_zero s n d
/-- A finite word made whole: its value divided by the unit of whole numbers. -/
theorem integral_fin {b : Nat} (h : Fnt b) (way : Toward) (hw : way ≠ .even) : (double.read b).integral way = .number (sg b) (way.cut (sg b) (V b).natAbs 1074) 0 := by
  obtain ⟨m, k, h1, _, h2⟩ := read_fin' h
  rw [h1, ← h2]
  exact integral_num (sg b) m k 1074 way hw
theorem V_sg (b : Nat) : V b = if sg b then -((V b).natAbs : Int) else ((V b).natAbs : Int) := by
  rw [V_abs]; rfl
theorem toInt_num (s : Bool) (u K : Nat) : (match Datum.number s (Toward.zero.cut s u K) 0 with | .number s m _ => some (signed s m 0) | _ => none) = some ((if s then -(u : Int) else (u : Int)).tdiv (pw K)) := by
  simp only
  rw [cut_zero, signed_val, Nat.pow_zero, Nat.mul_one]
  congr 1
  unfold pw
  cases s <;> simp [Int.neg_tdiv]
theorem toInt_fin {b : Nat} (h : Fnt b) : (double.read b).toInt .zero = some ((V b).tdiv (pw 1074)) := by
  unfold Datum.toInt
  rw [integral_fin h .zero (by decide)]
  exact (toInt_num (sg b) (V b).natAbs 1074).trans (by rw [← V_sg])
/-- A number that is not too great is finite. -/
theorem cut_le (s : Bool) (n d : Nat) : Toward.even.cut s n d ≤ n / 2 ^ d + 1 := by
  have key : n / (1 <<< min d (n.log2 + 2)) = n / 2 ^ d := by
    rw [Nat.shiftLeft_eq, Nat.one_mul]
    rcases Nat.le_total d (n.log2 + 2) with h | h
    · rw [Nat.min_eq_left h]
    · rw [Nat.min_eq_right h]
      have a1 : n < 2 ^ (n.log2 + 2) := Nat.lt_of_lt_of_le (@Nat.lt_log2_self n) (Nat.pow_le_pow_right (by decide) (by omega))
      have a2 : n < 2 ^ d := Nat.lt_of_lt_of_le a1 (Nat.pow_le_pow_right (by decide) h)
      rw [Nat.div_eq_of_lt a1, Nat.div_eq_of_lt a2]
  unfold Toward.cut
  simp only [key]
  exact Nat.add_le_add_left (Bool.toNat_le _) _
theorem word_sg (s : Bool) (r : Nat) (h : r < 9223372036854775808) : double.word s r < 18446744073709551616 ∧ double.word s r % 9223372036854775808 = r ∧ sg (double.word s r) = s := by
  unfold Format.word sg
  rw [dbl_sw]
  cases s
  · simp; omega
  · simp; omega
theorem nearest_small (s : Bool) (m : Nat) (p : Int) (h : p + m.log2 ≤ 1000) : Fnt (double.nearest s m p) := by
  by_cases hm : m = 0
  · subst hm
    have := word_sg s 0 (by decide)
    simp only [Format.nearest, if_true]
    exact ⟨this.1, by rw [this.2.1]; decide⟩
  have h2 := @Nat.lt_log2_self m
  unfold Format.nearest
  rw [if_neg hm]
  simp only [dbl_least, dbl_binade, dbl_inf, show double.fractionBits = 52 from rfl]
  obtain ⟨l, hl⟩ : ∃ l, max (p + (m.log2 : Int) - (52 : Nat)) (-1074) = l := ⟨_, rfl⟩
  rw [hl]
  have hkept : Toward.even.cut s (m <<< (p - l).toNat) (l - p).toNat ≤ 9007199254740992 := by
    refine Nat.le_trans (cut_le _ _ _) ?_
    have : m <<< (p - l).toNat / 2 ^ (l - p).toNat < 2 ^ 53 := by
      refine (Nat.div_lt_iff_lt_mul (Nat.two_pow_pos _)).2 ?_
      rw [Nat.shiftLeft_eq]
      have := Nat.mul_lt_mul_of_pos_right h2 (Nat.two_pow_pos (p - l).toNat)
      rw [← Nat.pow_add] at this
      refine Nat.lt_of_lt_of_le this ?_
      rw [← Nat.pow_add]
      exact Nat.pow_le_pow_right (by decide) (by omega)
    omega
  generalize Toward.even.cut s (m <<< (p - l).toNat) (l - p).toNat = kept at hkept
  have hr : min ((l - -1074).toNat * 4503599627370496 + kept) 9218868437227405312 < 9218868437227405312 := by omega
  have := word_sg s _ (Nat.lt_trans hr (by decide))
  exact ⟨this.1, by rw [this.2.1]; exact hr⟩
/-- A value of at most 53 bits is kept. -/
theorem nearest_rung (s : Bool) (u r : Nat) (hr : r < 9218868437227405312) (h : U r = u) : Fnt (double.nearest s u (-1074)) ∧ V (double.nearest s u (-1074)) = if s then -(u : Int) else u := by
  subst h
  rw [nearest_U s r hr]
  obtain ⟨a, b, c⟩ := word_sg s r (Nat.lt_trans hr (by decide))
  refine ⟨⟨a, by rw [b]; exact hr⟩, ?_⟩
  rw [V_sg, V_abs, b, c]
theorem U_eq (q f : Nat) (hf : f < 4503599627370496) : U ((q + 1) * 4503599627370496 + f) = (4503599627370496 + f) * pw q := by
  have e1 : ((q + 1) * 4503599627370496 + f) % 4503599627370496 = f := by omega
  have e2 : ((q + 1) * 4503599627370496 + f) / 4503599627370496 - 1 = q := by omega
  have e3 : ¬ ((q + 1) * 4503599627370496 + f) < 4503599627370496 := by omega
  unfold U
  rw [if_neg e3, e1, e2]; rfl
theorem rung_pw (m e : Nat) (hm : m < 9007199254740992) (he : e ≤ 1992) : ∃ r, r < 9218868437227405312 ∧ U r = m * pw e := rung_of m e hm he
/-- Whole numbers of at most 2^53 are floats. -/
theorem whole_rung (n K : Nat) (hK : K ≤ 1900) (h : n ≤ 9007199254740992) : ∃ r, r < 9218868437227405312 ∧ U r = n * pw K := by
  rcases Nat.lt_or_ge n 9007199254740992 with h' | h'
  · exact rung_pw n K h' (by omega)
  · have e : n = 1 * pw 53 := by rw [show pw 53 = 9007199254740992 from rfl]; omega
    obtain ⟨r, h1, h2⟩ := rung_pw 1 (53 + K) (by decide) (by omega)
    exact ⟨r, h1, by rw [h2, e, pw_add, Nat.mul_assoc]⟩
theorem nearest_pw (s : Bool) (m : Nat) (p : Int) (k : Nat) (h : p = -1074 + k) : double.nearest s m p = double.nearest s (m * pw k) (-1074) := nearest_unit double s m p k (by rw [dbl_least]; exact h)
theorem nearest_whole (s : Bool) (n : Nat) (h : n ≤ 9007199254740992) : Fnt (double.nearest s n 0) ∧ V (double.nearest s n 0) = if s then -((n * pw 1074 : Nat) : Int) else (n * pw 1074 : Nat) := by
  obtain ⟨r, h1, h2⟩ := whole_rung n 1074 (by decide) h
  rw [nearest_pw s n 0 1074 (by decide)]
  exact nearest_rung s _ r h1 h2
theorem ofInt_eq (n : Int) : Go.floatOfInt .f64 n = double.nearest (decide (n < 0)) n.natAbs 0 := rfl
theorem ofInt_fin (n : Int) (h : n.natAbs ≤ 9223372036854775808) : Fnt (Go.floatOfInt .f64 n) := by
  rw [ofInt_eq]
  refine nearest_small _ _ _ ?_
  by_cases hz : n.natAbs = 0
  · rw [hz]; decide
  · have := (Nat.log2_lt (k := 64) hz).2 (by omega)
    omega
theorem ofInt_val (n : Int) (h : n.natAbs ≤ 9007199254740992) : V (Go.floatOfInt .f64 n) = n * pw 1074 := by
  rw [ofInt_eq, (nearest_whole _ _ h).2]
  generalize pw 1074 = K
  by_cases hn : n < 0
  · obtain ⟨m, rfl⟩ : ∃ m : Nat, n = -(m : Int) := ⟨n.natAbs, by omega⟩
    rw [if_pos (by simpa using hn)]; simp [Int.neg_mul]
  · obtain ⟨m, rfl⟩ : ∃ m : Nat, n = (m : Int) := ⟨n.natAbs, by omega⟩
    rw [if_neg (by simp)]; simp
/-- Values rise with their rungs. -/
theorem U_step (r : Nat) : U r < U (r + 1) := by
  unfold U
  by_cases h1 : r + 1 < 4503599627370496
  · rw [if_pos h1, if_pos (by omega)]; omega
  · rw [if_neg h1]
    by_cases h2 : r < 4503599627370496
    · rw [if_pos h2, show (r + 1) / 4503599627370496 - 1 = 0 by omega]; omega
    · rw [if_neg h2]
      have hp := Nat.two_pow_pos (r / 4503599627370496 - 1)
      by_cases h3 : r % 4503599627370496 + 1 < 4503599627370496
      · rw [show (r + 1) / 4503599627370496 = r / 4503599627370496 by omega, show (r + 1) % 4503599627370496 = r % 4503599627370496 + 1 by omega]
        exact Nat.mul_lt_mul_of_pos_right (by omega) hp
      · rw [show (r + 1) / 4503599627370496 - 1 = (r / 4503599627370496 - 1) + 1 by omega, show (r + 1) % 4503599627370496 = 0 by omega, Nat.pow_succ]
        generalize 2 ^ (r / 4503599627370496 - 1) = q at *
        have := Nat.mul_lt_mul_of_pos_right (show 4503599627370496 + r % 4503599627370496 < 9007199254740992 by omega) hp
        omega
theorem U_mono {r s : Nat} (h : r < s) : U r < U s := by
  induction s with
  | zero => omega
  | succ s ih =>
    rcases Nat.lt_or_ge r s with h' | h'
    · exact Nat.lt_trans (ih h') (U_step s)
    · rw [show r = s by omega]; exact U_step s
theorem U_le {r s : Nat} (h : r ≤ s) : U r ≤ U s := by
  rcases Nat.lt_or_ge r s with h' | h'
  · exact Nat.le_of_lt (U_mono h')
  · rw [show r = s by omega]; exact Nat.le_refl _
theorem U_inj {r s : Nat} (h : U r = U s) : r = s := by
  rcases Nat.lt_trichotomy r s with h' | h' | h'
  · have := U_mono h'; omega
  · exact h'
  · have := U_mono h'; omega
/-- A number of the document: finite, and a zero has no sign. -/
def Num (x : Nat) : Prop := Fnt x ∧ (x % 9223372036854775808 = 0 → x = 0)
/-- A zero without a sign. -/
def ze (x : Nat) : Nat := if x % 9223372036854775808 = 0 then 0 else x
theorem fin_zero : Fnt 0 := ⟨by decide, by decide⟩
theorem ze_num {x : Nat} (h : Fnt x) : Num (ze x) := by
  unfold ze; split
  · exact ⟨fin_zero, fun _ => rfl⟩
  · exact ⟨h, fun e => absurd e ‹_›⟩
theorem V_zero : V 0 = 0 := by decide
theorem V_eq_zero {x : Nat} : V x = 0 ↔ x % 9223372036854775808 = 0 := by
  rw [← Int.natAbs_eq_zero, V_abs, U_zero]
/-- Words of one value and, if it is zero, one sign are one. -/
theorem V_inj {x y : Nat} (hx : Num x) (hy : Num y) (h : V x = V y) : x = y := by
  by_cases hz : V x = 0
  · rw [hx.2 (V_eq_zero.1 hz), hy.2 (V_eq_zero.1 (h ▸ hz))]
  · have h1 : U (x % 9223372036854775808) = U (y % 9223372036854775808) := by rw [← V_abs, ← V_abs, h]
    have h2 := U_inj h1
    have h3 : U (x % 9223372036854775808) ≠ 0 := by rw [← V_abs]; omega
    have hx1 := hx.1.1
    have hy1 := hy.1.1
    unfold V at h
    rw [← h2] at h
    generalize U (x % 9223372036854775808) = u at *
    by_cases a : x / 9223372036854775808 % 2 = 1 <;> by_cases b : y / 9223372036854775808 % 2 = 1 <;> simp [a, b] at h <;> omega
theorem ord_cases {a b : Nat} (ha : Fnt a) (hb : Fnt b) : (V a < V b ∧ double.order a b = some .lt) ∨ (V a = V b ∧ double.order a b = some .eq) ∨ (V b < V a ∧ double.order a b = some .gt) := by
  rw [order_fin ha hb]
  rcases Int.lt_trichotomy (V a) (V b) with h | h | h
  · exact .inl ⟨h, by rw [Int.compare_eq_lt.2 h]⟩
  · exact .inr (.inl ⟨h, by rw [Int.compare_eq_eq.2 h]⟩)
  · exact .inr (.inr ⟨h, by rw [Int.compare_eq_gt.2 h]⟩)
theorem ord_eq {a b : Nat} (ha : Fnt a) (hb : Fnt b) (h : V a = V b) : double.order a b = some .eq := by
  rw [order_fin ha hb, Int.compare_eq_eq.2 h]
theorem ord_ne {a b : Nat} (ha : Fnt a) (hb : Fnt b) (h : V a ≠ V b) : double.order a b = some .lt ∨ double.order a b = some .gt := by
  rcases ord_cases ha hb with h' | h' | h'
  · exact .inl h'.2
  · exact absurd h'.1 h
  · exact .inr h'.2
/-- What is no number: an infinity, or none at all. -/
theorem read_non {x : Nat} (h : x < 18446744073709551616) (hn : ¬ Fnt x) : (∃ s, double.read x = .infinity s ∧ x = double.word s 9218868437227405312) ∨ ∃ s t, double.read x = .nan s t := by
  have h2 : ¬ x % 9223372036854775808 < 9218868437227405312 := fun e => hn ⟨h, e⟩
  unfold Format.read
  simp only [dbl_sw, dbl_binade, dbl_inf, dbl_least]
  rw [if_neg (by omega), if_neg h2]
  by_cases h3 : x % 9223372036854775808 = 9218868437227405312
  · rw [if_pos h3]
    exact .inl ⟨_, rfl, by rw [← h3]; exact (word_fin h).symm⟩
  · rw [if_neg h3]; exact .inr ⟨_, _, rfl⟩
theorem ord_nan {x y : Nat} (h : ∃ s t, double.read x = .nan s t) : double.order x y = none := by
  obtain ⟨s, t, h⟩ := h
  unfold Format.order; rw [h]; rfl
theorem nan_mod {x : Nat} (h : ∃ s t, double.read x = .nan s t) : ∃ s t, double.read (x % 9223372036854775808) = .nan s t := by
  obtain ⟨s, t, h⟩ := h
  unfold Format.read at h ⊢
  simp only [dbl_sw, dbl_binade, dbl_inf, dbl_least, Nat.mod_mod] at h ⊢
  split at h
  · cases h
  · split at h
    · cases h
    · split at h
      · cases h
      · rw [if_neg ‹_›, if_neg ‹_›, if_neg ‹_›]; exact ⟨_, _, rfl⟩
theorem max_fin : Fnt 9218868437227405311 := ⟨by decide, by decide⟩
theorem min_fin : Fnt 18442240474082181119 := ⟨by decide, by decide⟩
theorem V_max : V 9218868437227405311 = U 9218868437227405311 := by
  unfold V; rw [if_neg (by decide)]
theorem V_min : V 18442240474082181119 = -(U 9218868437227405311 : Int) := by
  unfold V; rw [if_pos (by decide)]
theorem V_bounds {x : Nat} (h : Fnt x) : V 18442240474082181119 ≤ V x ∧ V x ≤ V 9218868437227405311 := by
  have h1 : U (x % 9223372036854775808) ≤ U 9218868437227405311 := U_le (by have := h.2; omega)
  have h2 := V_abs x
  rw [V_max, V_min]
  generalize U 9218868437227405311 = m at *
  omega
theorem mod_fin {x : Nat} (h : Fnt x) : Fnt (x % 9223372036854775808) := ⟨by omega, by have := h.2; omega⟩
/-- What comes of an operation: the number, or ErrDomain. -/
def rs (z : Nat) : Nat × Int := if z % 9223372036854775808 < 9218868437227405312 then (ze z, 0) else (0, 24)
end Go.Proofs.YtbfcdpabjailcaaGreatDoor.Fl

/- Package num, walked: the floats' own functions. -/
namespace Go.Proofs.YtbfcdpabjailcaaGreatDoor
set_option maxRecDepth 100000
open Go.RowKit Fl
set_option linter.unusedVariables false
theorem run_bits (P : Program) (b : Nat) (w : World) : (Extern.MathFloatBits.float64bits #[.float .f64 b]).run P w = .ok (.int .u64 b) w := rfl
theorem run_from (P : Program) (n : Int) (w : World) : (Extern.MathFloatBits.float64frombits #[.int .u64 n]).run P w = .ok (.float .f64 n.toNat) w := rfl
theorem ret_f {a b : Nat} (h : a = b) : Ending.returned (.float .f64 a) = .returned (.float .f64 b) := by rw [h]
theorem abs_calls (x : Nat) (w : World) (h : x < 18446744073709551616) : Calls Tryz.prog 121 #[.float .f64 x] w fun e w' => e = .returned (.float .f64 (x % 9223372036854775808)) ∧ w = w' := by
  have x1 := @run_callFunc_extern Tryz.prog 132 _ Extern.MathFloatBits.float64bits Tryz.func132 (by kernel_rfl) (by kernel_rfl) (by kernel_rfl) (by kernel_rfl)
  have x2 := @run_callFunc_extern Tryz.prog 131 _ Extern.MathFloatBits.float64frombits Tryz.func131 (by kernel_rfl) (by kernel_rfl) (by kernel_rfl) (by kernel_rfl)
  have x3 := run_bits Tryz.prog
  have x4 := run_from Tryz.prog
  have x5 : (bits .andNot .u64 (x : Int) 9223372036854775808).toNat = x % 9223372036854775808 := by
    rw [show (9223372036854775808 : Int) = ((9223372036854775808 : Nat) : Int) from rfl, u64_andNot_nat x _ h (by decide), Int.toNat_natCast]
    exact Nat.and_two_pow_sub_one_eq_mod x 63
  go_enter Tryz.func121, Tryz.ntmps121
  go_wp2
  go_ret
  exact ⟨rfl, rfl⟩
theorem isNaN_calls (x : Nat) (w : World) (o : Option Ordering) (h : FloatKind.f64.format.order x x = o) : Calls Tryz.prog 105 #[.float .f64 x] w fun e w' => e = .returned (.bool (o != some .eq)) ∧ w = w' := by
  go_enter Tryz.func105, Tryz.ntmps105
  go_wp2
  go_ret
  exact ⟨rfl, rfl⟩
theorem isInf_calls (x : Nat) (w : World) (hx : x < 18446744073709551616) (o : Option Ordering) (h : FloatKind.f64.format.order (x % 9223372036854775808) 9218868437227405311 = o) : Calls Tryz.prog 104 #[.float .f64 x, .int .i64 0] w fun e w' => e = .returned (.bool (o == some .gt)) ∧ w = w' := by
  go_enter Tryz.func104, Tryz.ntmps104
  go_wp2_with (refine (abs_calls _ _ hx).mono ?_; rintro e w' ⟨rfl, rfl⟩)
  go_ret
  exact ⟨rfl, rfl⟩
theorem unsigned_calls (x : Nat) (w : World) (hx : Fnt x) : Calls Tryz.prog 106 #[.float .f64 x] w fun e w' => e = .returned (.float .f64 (ze x)) ∧ w = w' := by
  by_cases hz : x % 9223372036854775808 = 0
  · have ho : FloatKind.f64.format.order x 0 = some .eq := ord_eq hx fin_zero (by rw [V_zero, V_eq_zero.2 hz])
    have hr : Hid (ze x = 0) := Lib.hid (if_pos hz)
    clear hz
    go_enter Tryz.func106, Tryz.ntmps106
    go_wp2
    go_ret
    exact ⟨ret_f hr.out.symm, rfl⟩
  · have ho := ord_ne hx fin_zero (by rw [V_zero]; exact fun e => hz (V_eq_zero.1 e))
    have hr : Hid (ze x = x) := Lib.hid (if_neg hz)
    clear hz
    rcases ho with ho | ho
    all_goals
      have ho' : FloatKind.f64.format.order x 0 = _ := ho
      clear ho
      go_enter Tryz.func106, Tryz.ntmps106
      go_wp2
      go_ret
      exact ⟨ret_f hr.out.symm, rfl⟩
theorem tidy_fin (x : Nat) (w : World) (hx : Fnt x) : Calls Tryz.prog 74 #[.float .f64 x] w fun e w' => e = .returned (.tuple #[.float .f64 (ze x), .bool true]) ∧ w = w' := by
  have h1 : Hid (FloatKind.f64.format.order x x = some .eq) := Lib.hid (ord_eq hx hx rfl)
  have h2 : Hid (FloatKind.f64.format.order (x % 9223372036854775808) 9218868437227405311 = some .lt ∨ FloatKind.f64.format.order (x % 9223372036854775808) 9218868437227405311 = some .eq) := Lib.hid (by
    rcases ord_cases (mod_fin hx) max_fin with h | h | h
    · exact .inl h.2
    · exact .inr h.2
    · have := (V_bounds (mod_fin hx)).2; omega)
  rcases h2.out with h3 | h3
  all_goals
    have h4 := Lib.hid h3
    clear h3
    go_enter Tryz.func74, Tryz.ntmps74
    go_wp2_with fail
    refine (isInf_calls _ _ hx.1 _ h4.out).mono ?_
    rintro e w' ⟨rfl, rfl⟩
    go_wp2_with fail
    refine (isNaN_calls _ _ _ h1.out).mono ?_
    rintro e w' ⟨rfl, rfl⟩
    go_wp2_with fail
    refine (unsigned_calls _ _ hx).mono ?_
    rintro e w' ⟨rfl, rfl⟩
    go_wp2
    go_ret2
    exact ⟨rfl, rfl⟩
theorem tidy_non (x : Nat) (w : World) (hx : x < 18446744073709551616) (hn : ¬ Fnt x) : Calls Tryz.prog 74 #[.float .f64 x] w fun e w' => e = .returned (.tuple #[.float .f64 0, .bool false]) ∧ w = w' := by
  rcases read_non hx hn with ⟨s, _, rfl⟩ | hnan
  · have h2 : FloatKind.f64.format.order (Ieee.double.word s 9218868437227405312 % 9223372036854775808) 9218868437227405311 = some .gt := by cases s <;> decide
    have H2 := Lib.hid h2
    clear h2
    go_enter Tryz.func74, Tryz.ntmps74
    go_wp2_with fail
    refine (isInf_calls _ _ hx _ H2.out).mono ?_
    rintro e w' ⟨rfl, rfl⟩
    go_wp2
    go_ret2
    exact ⟨rfl, rfl⟩
  · have h1 : Hid (FloatKind.f64.format.order x x = none) := Lib.hid (ord_nan hnan)
    have h2 : Hid (∃ o, FloatKind.f64.format.order (x % 9223372036854775808) 9218868437227405311 = o ∧ (o == some .gt) = false) := Lib.hid ⟨_, ord_nan (nan_mod hnan), rfl⟩
    obtain ⟨o, ho, hg⟩ := h2.out
    have H2 := Lib.hid ho
    clear ho
    go_enter Tryz.func74, Tryz.ntmps74
    go_wp2_with fail
    refine (isInf_calls _ _ hx _ H2.out).mono ?_
    rintro e w' ⟨rfl, rfl⟩
    go_wp2_with fail
    refine (isNaN_calls _ _ _ h1.out).mono ?_
    rintro e w' ⟨rfl, rfl⟩
    go_wp2
    go_ret2
    exact ⟨rfl, rfl⟩
theorem ret_fb {a b : Nat} {c : Bool} (h : a = b) : Ending.returned (.tuple #[.float .f64 a, .bool c]) = .returned (.tuple #[.float .f64 b, .bool c]) := by rw [h]
theorem rfinite_fin (x : Nat) (w : World) (hx : Fnt x) : Calls Tryz.prog 41 #[.float .f64 x] w fun e w' => e = .returned (.bool true) ∧ w = w' := by
  have h1 : FloatKind.f64.format.order x 18442240474082181119 = some .gt ∨ FloatKind.f64.format.order x 18442240474082181119 = some .eq := by
    rcases ord_cases hx min_fin with h | h | h
    · have := (V_bounds hx).1; omega
    · exact .inr h.2
    · exact .inl h.2
  have h2 : FloatKind.f64.format.order x 9218868437227405311 = some .lt ∨ FloatKind.f64.format.order x 9218868437227405311 = some .eq := by
    rcases ord_cases hx max_fin with h | h | h
    · exact .inl h.2
    · exact .inr h.2
    · have := (V_bounds hx).2; omega
  clear hx
  rcases h1 with h1 | h1 <;> rcases h2 with h2 | h2
  all_goals
    go_enter Tryz.func41, Tryz.ntmps41
    go_wp2
    go_ret
    exact ⟨rfl, rfl⟩
theorem rfinite_non (x : Nat) (w : World) (hx : x < 18446744073709551616) (hn : ¬ Fnt x) : Calls Tryz.prog 41 #[.float .f64 x] w fun e w' => e = .returned (.bool false) ∧ w = w' := by
  have key : (FloatKind.f64.format.order x 18442240474082181119 = none ∧ True) ∨ (FloatKind.f64.format.order x 18442240474082181119 = some .lt) ∨ (FloatKind.f64.format.order x 18442240474082181119 = some .gt ∧ FloatKind.f64.format.order x 9218868437227405311 = some .gt) := by
    rcases read_non hx hn with ⟨s, _, rfl⟩ | hnan
    · cases s
      · exact .inr (.inr ⟨by decide, by decide⟩)
      · exact .inr (.inl (by decide))
    · exact .inl ⟨ord_nan hnan, trivial⟩
  clear hx hn
  rcases key with ⟨h1, _⟩ | h1 | ⟨h1, h2⟩
  all_goals
    go_enter Tryz.func41, Tryz.ntmps41
    go_wp2
    go_ret
    exact ⟨rfl, rfl⟩
theorem rtidy_fin (x : Nat) (w : World) (hx : Fnt x) : Calls Tryz.prog 22 #[.float .f64 x] w fun e w' => e = .returned (.tuple #[.float .f64 (ze x), .bool true]) ∧ w = w' := by
  have HX := Lib.hid hx
  by_cases hz : x % 9223372036854775808 = 0
  · have ho : FloatKind.f64.format.order x 0 = some .eq := ord_eq hx fin_zero (by rw [V_zero, V_eq_zero.2 hz])
    have hr : Hid (ze x = 0) := Lib.hid (if_pos hz)
    clear hz hx
    go_enter Tryz.func22, Tryz.ntmps22
    go_wp2_with (refine (rfinite_fin _ _ HX.out).mono ?_; rintro e w' ⟨rfl, rfl⟩)
    go_ret2
    exact ⟨ret_fb hr.out.symm, rfl⟩
  · have ho := ord_ne hx fin_zero (by rw [V_zero]; exact fun e => hz (V_eq_zero.1 e))
    have hr : Hid (ze x = x) := Lib.hid (if_neg hz)
    clear hz hx
    rcases ho with ho | ho
    all_goals
      have ho' : FloatKind.f64.format.order x 0 = _ := ho
      clear ho
      go_enter Tryz.func22, Tryz.ntmps22
      go_wp2_with (refine (rfinite_fin _ _ HX.out).mono ?_; rintro e w' ⟨rfl, rfl⟩)
      go_ret2
      exact ⟨ret_fb hr.out.symm, rfl⟩
/-- Two numbers alike are one. -/
theorem bits_same (x : Nat) (w : World) (hx : Num x) : Calls Tryz.prog 69 #[.float .f64 x, .float .f64 x] w fun e w' => e = .returned (.bool true) ∧ w = w' := by
  have h1 : FloatKind.f64.format.order x x = some .eq := ord_eq hx.1 hx.1 rfl
  by_cases hz : x % 9223372036854775808 = 0
  · have hx0 := hx.2 hz
    subst hx0
    clear hz hx h1
    have h2 : ∀ t w, (binOp .quo t (.float .f64 4607182418800017408) (.float .f64 0)).run Tryz.prog w = .ok (.float .f64 9218868437227405312) w := fun t w => run_float_arith w .quo t .f64 _ _ _ (by decide)
    have h3 : FloatKind.f64.format.order 9218868437227405312 9218868437227405312 = some .eq := by decide
    have h1 : FloatKind.f64.format.order 0 0 = some .eq := by decide
    go_enter Tryz.func69, Tryz.ntmps69
    go_wp2
    go_ret
    exact ⟨rfl, rfl⟩
  · have ho := ord_ne hx.1 fin_zero (by rw [V_zero]; exact fun e => hz (V_eq_zero.1 e))
    clear hz hx
    rcases ho with ho | ho
    all_goals
      have ho' : FloatKind.f64.format.order x 0 = _ := ho
      clear ho
      go_enter Tryz.func69, Tryz.ntmps69
      go_wp2
      go_ret
      exact ⟨rfl, rfl⟩
end Go.Proofs.YtbfcdpabjailcaaGreatDoor

/- Floats as whole numbers of units: whole numbers below and above, greater and lesser. Plain mathematics. -/
namespace Go.Proofs.YtbfcdpabjailcaaGreatDoor.Fl
set_option maxRecDepth 100000
open Ieee
theorem V_pos (r : Nat) (h : r < 9223372036854775808) : V r = (U r : Int) := by
  unfold V
  rw [if_neg (by simp; omega), Nat.mod_eq_of_lt h]
theorem V_neg (r : Nat) (h : r < 9223372036854775808) : V (9223372036854775808 + r) = -(U r : Int) := by
  unfold V
  rw [if_pos (by simp; omega), show (9223372036854775808 + r) % 9223372036854775808 = r by omega]
theorem U_top : U 4845873199050653696 = 9007199254740992 * pw 1074 := by
  have h := U_eq 1075 0 (by decide)
  rw [show (1075 + 1) * 4503599627370496 + 0 = 4845873199050653696 from rfl, show pw 1075 = pw 1 * pw 1074 from pw_add 1 1074, show pw 1 = 2 from rfl] at h
  rw [h]
  generalize pw 1074 = t
  omega
theorem V_top : V 4845873199050653696 = 9007199254740992 * (pw 1074 : Int) := by
  rw [V_pos _ (by decide), U_top, Int.natCast_mul]; rfl
theorem V_bot : V 14069245235905429504 = -(9007199254740992 * (pw 1074 : Int)) := by
  rw [show 14069245235905429504 = 9223372036854775808 + 4845873199050653696 from rfl, V_neg _ (by decide), U_top, Int.natCast_mul]; rfl
theorem top_fin : Fnt 4845873199050653696 := ⟨by decide, by decide⟩
theorem bot_fin : Fnt 14069245235905429504 := ⟨by decide, by decide⟩
theorem one_fin : Fnt 4607182418800017408 := ⟨by decide, by decide⟩
theorem U_one : U 4607182418800017408 = pw 1074 := by
  have h := U_eq 1022 0 (by decide)
  rw [show (1022 + 1) * 4503599627370496 + 0 = 4607182418800017408 from rfl] at h
  rw [h, show pw 1074 = pw 52 * pw 1022 from pw_add 52 1022, show pw 52 = 4503599627370496 from rfl]
theorem V_one : V 4607182418800017408 = pw 1074 := by rw [V_pos _ (by decide), U_one]
/-- A word plus nothing. -/
theorem add_zero {x : Nat} (hx : Fnt x) : double.add x 0 = some (ze x) := by
  rw [add_fin hx fin_zero, V_zero, Int.add_zero]
  congr 1
  have h1 := nearest_fin hx
  unfold ze
  by_cases h0 : x % 9223372036854775808 = 0
  · rw [if_pos h0, if_pos (V_eq_zero.2 h0), V_eq_zero.2 h0, show (sg 0) = false from rfl, Bool.and_false]
    simp [Format.nearest, Format.word]
  · have h2 : V x ≠ 0 := fun e => h0 (V_eq_zero.1 e)
    rw [if_neg h0, if_neg h2, V_abs]
    have h3 : decide (V x < 0) = sg x := by
      rw [V_sg] at h2 ⊢
      cases sg x <;> simp at h2 ⊢ <;> omega
    rw [h3]; exact h1
end Go.Proofs.YtbfcdpabjailcaaGreatDoor.Fl

/- Package num, walked: whole numbers. -/
namespace Go.Proofs.YtbfcdpabjailcaaGreatDoor
set_option maxRecDepth 100000
open Go.RowKit Fl
set_option linter.unusedVariables false
/-- A float cut to a whole number. -/
def tr (x : Nat) : Nat := Ieee.double.nearest (sg x) ((V x).natAbs / pw 1074) 0
theorem run_integral (P : Program) (name : String) (way : Ieee.Toward) (hw : way ≠ .even) (x : Nat) (hx : Fnt x) (w : World) : (Extern.MathFloor.toIntegral name way #[.float .f64 x]).run P w = .ok (.float .f64 (Ieee.double.nearest (sg x) (way.cut (sg x) (V x).natAbs 1074) 0)) w := by
  obtain ⟨m, k, h1, _, _⟩ := read_fin' hx
  have h2 := integral_fin hx way hw
  have h3 : FloatKind.f64.decode x = Ieee.Datum.number (sg x) m (-1074 + k) := h1
  rw [h1] at h2
  have h4 : ∀ d, FloatKind.f64.decode x = d → (∃ s m p, d = Ieee.Datum.number s m p) → Extern.MathFloor.toIntegral name way #[.float .f64 x] = pure (.float .f64 (FloatKind.f64.encode (d.integral way))) := by
    intro d hd ⟨s, m, p, e⟩
    subst e
    show (match FloatKind.f64.decode x with
      | .nan s t => _
      | d => pure (.float .f64 (FloatKind.f64.encode (d.integral way))) : Sem Value) = _
    rw [hd]
  rw [h4 _ h3 ⟨_, _, _, rfl⟩, h2]
  rfl
theorem trunc_calls (x : Nat) (w : World) (hx : Fnt x) : Calls Tryz.prog 133 #[.float .f64 x] w fun e w' => e = .returned (.float .f64 (tr x)) ∧ w = w' := by
  have x1 := @run_callFunc_extern Tryz.prog 135 _ (Extern.MathFloor.toIntegral "math.archTrunc" .zero) Tryz.func135 (by kernel_rfl) (by kernel_rfl) (by kernel_rfl) (by kernel_rfl)
  have x2 : ∀ w, (Extern.MathFloor.toIntegral "math.archTrunc" .zero #[.float .f64 x]).run Tryz.prog w = .ok (.float .f64 (tr x)) w := fun w => by
    rw [run_integral _ _ _ (by decide) x hx, cut_zero', tr]
  go_enter Tryz.func133, Tryz.ntmps133
  go_wp2
  go_ret
  exact ⟨rfl, rfl⟩
/-- A float that is a whole number. -/
def Wh (x : Nat) (n : Int) : Prop := Fnt x ∧ n.natAbs ≤ 9007199254740992 ∧ V x = n * pw 1074
/-- How a word stands to the greatest and the least whole number. -/
theorem bounds_cases (x : Nat) (hx : x < 18446744073709551616) :
    (FloatKind.f64.format.order x 14069245235905429504 = none ∧ ¬ Fnt x) ∨ (FloatKind.f64.format.order x 14069245235905429504 = some .lt ∧ ∀ n, ¬ Wh x n)
    ∨ ((FloatKind.f64.format.order x 14069245235905429504 = some .gt ∨ FloatKind.f64.format.order x 14069245235905429504 = some .eq) ∧ FloatKind.f64.format.order x 4845873199050653696 = some .gt ∧ ∀ n, ¬ Wh x n)
    ∨ ((FloatKind.f64.format.order x 14069245235905429504 = some .gt ∨ FloatKind.f64.format.order x 14069245235905429504 = some .eq) ∧ (FloatKind.f64.format.order x 4845873199050653696 = some .lt ∨ FloatKind.f64.format.order x 4845873199050653696 = some .eq) ∧ Fnt x ∧ (V x).natAbs ≤ 9007199254740992 * pw 1074) := by
  have hp : (0 : Int) < pw 1074 := by exact_mod_cast pw_pos 1074
  by_cases hf : Fnt x
  · have nw : ∀ n, Wh x n → -(9007199254740992 * (pw 1074 : Int)) ≤ V x ∧ V x ≤ 9007199254740992 * (pw 1074 : Int) := by
      rintro n ⟨_, h1, h2⟩
      rw [h2]
      exact ⟨by rw [← Int.neg_mul]; exact Int.mul_le_mul_of_nonneg_right (by omega) (Int.le_of_lt hp), Int.mul_le_mul_of_nonneg_right (by omega) (Int.le_of_lt hp)⟩
    rcases ord_cases hf bot_fin with h | h | h
    · exact .inr (.inl ⟨h.2, fun n hn => by have := (nw n hn).1; have := h.1; rw [V_bot] at this; omega⟩)
    all_goals
      rcases ord_cases hf top_fin with g | g | g
      · refine .inr (.inr (.inr ⟨?_, .inl g.2, hf, ?_⟩))
        · first | exact .inl h.2 | exact .inr h.2
        · have a := h.1; have b := g.1; rw [V_bot] at a; rw [V_top] at b; generalize pw 1074 = t at *; omega
      · refine .inr (.inr (.inr ⟨?_, .inr g.2, hf, ?_⟩))
        · first | exact .inl h.2 | exact .inr h.2
        · have a := h.1; have b := g.1; rw [V_bot] at a; rw [V_top] at b; generalize pw 1074 = t at *; omega
      · refine .inr (.inr (.inl ⟨?_, g.2, fun n hn => by have := (nw n hn).2; have := g.1; rw [V_top] at this; omega⟩))
        first | exact .inl h.2 | exact .inr h.2
  · rcases read_non hx hf with ⟨s, _, rfl⟩ | hnan
    · cases s
      · exact .inr (.inr (.inl ⟨.inl (by decide), by decide, fun n hn => hf hn.1⟩))
      · exact .inr (.inl ⟨by decide, fun n hn => hf hn.1⟩)
    · exact .inl ⟨ord_nan hnan, hf⟩
theorem wh_tr (x : Nat) (hx : Fnt x) (hb : (V x).natAbs ≤ 9007199254740992 * pw 1074) : Fnt (tr x) ∧ (V (tr x) = V x ↔ ∃ n, Wh x n) := by
  have hq : (V x).natAbs / pw 1074 ≤ 9007199254740992 := by
    exact Nat.div_le_of_le_mul (by rw [Nat.mul_comm]; exact hb)
  obtain ⟨h1, h2⟩ := nearest_whole (sg x) _ hq
  refine ⟨h1, ?_⟩
  rw [show V (tr x) = _ from h2]
  have hs := V_sg x
  constructor
  · intro h
    clear h2 h1 hs hb
    generalize (V x).natAbs / pw 1074 = q at *
    refine ⟨if sg x then -(q : Int) else q, hx, by split <;> omega, ?_⟩
    rw [← h]
    split <;> simp [Int.neg_mul]
  · rintro ⟨n, _, h3, h4⟩
    have h5 : (V x).natAbs = n.natAbs * pw 1074 := by rw [h4, Int.natAbs_mul]; simp
    rw [h5, Nat.mul_div_cancel _ (pw_pos 1074), ← h5]
    exact hs.symm
theorem wh_int (x : Nat) (n : Int) (h : Wh x n) : floatToIntVal .f64 x .i64 = some n := by
  have hd : FloatKind.f64.decode x = Ieee.double.read x := rfl
  have hm : IntKind.i64.min = -9223372036854775808 ∧ IntKind.i64.max = 9223372036854775807 := by decide
  have hp : (pw 1074 : Int) ≠ 0 := by have := pw_pos 1074; omega
  unfold floatToIntVal
  rw [hd, toInt_fin h.1, h.2.2, Int.mul_tdiv_cancel _ hp]
  have := h.2.1
  simp only
  rw [if_pos ⟨by omega, by omega⟩]
theorem whole_yes (x : Nat) (n : Int) (w : World) (h : Wh x n) : Calls Tryz.prog 128 #[.float .f64 x] w fun e w' => e = .returned (.tuple #[.int .i64 n, .bool true]) ∧ w = w' := by
  have hi := wh_int x n h
  have hc : ∀ w, (convert 38 2 (.float .f64 x)).run Tryz.prog w = .ok (.int .i64 n) w := fun w => run_convert_float_int w 38 2 .f64 .i64 x n (by kernel_rfl) (by kernel_rfl) hi
  rcases bounds_cases x h.1.1 with ⟨_, hf⟩ | ⟨_, hf⟩ | ⟨_, _, hf⟩ | ⟨h1, h2, hf, hb⟩
  · exact absurd h.1 hf
  · exact absurd h (hf n)
  · exact absurd h (hf n)
  have ht := wh_tr x hf hb
  have h3 : FloatKind.f64.format.order x (tr x) = some .eq := ord_eq hf ht.1 (ht.2.2 ⟨n, h⟩).symm
  have HF := Lib.hid hf
  clear hf hb ht hi h
  rcases h1 with h1 | h1 <;> rcases h2 with h2 | h2
  all_goals
    go_enter Tryz.func128, Tryz.ntmps128
    go_wp2_with (refine (trunc_calls _ _ HF.out).mono ?_; rintro e w' ⟨rfl, rfl⟩)
    go_ret2
    exact ⟨rfl, rfl⟩
theorem whole_no (x : Nat) (w : World) (hx : x < 18446744073709551616) (h : ∀ n, ¬ Wh x n) : Calls Tryz.prog 128 #[.float .f64 x] w fun e w' => e = .returned (.tuple #[.int .i64 0, .bool false]) ∧ w = w' := by
  rcases bounds_cases x hx with ⟨h1, hf⟩ | ⟨h1, hf⟩ | ⟨h1, h2, hf⟩ | ⟨h1, h2, hf, hb⟩
  · clear hf h
    go_enter Tryz.func128, Tryz.ntmps128
    go_wp2
    go_ret2
    exact ⟨rfl, rfl⟩
  · clear hf h
    go_enter Tryz.func128, Tryz.ntmps128
    go_wp2
    go_ret2
    exact ⟨rfl, rfl⟩
  · clear hf h
    rcases h1 with h1 | h1
    all_goals
      go_enter Tryz.func128, Tryz.ntmps128
      go_wp2
      go_ret2
      exact ⟨rfl, rfl⟩
  · have ht := wh_tr x hf hb
    have h3 : FloatKind.f64.format.order x (tr x) = some .lt ∨ FloatKind.f64.format.order x (tr x) = some .gt := ord_ne hf ht.1 (fun e => by obtain ⟨n, hn⟩ := ht.2.1 e.symm; exact h n hn)
    have HF := Lib.hid hf
    clear hf hb ht h
    rcases h1 with h1 | h1 <;> rcases h2 with h2 | h2 <;> rcases h3 with h3 | h3
    all_goals
      go_enter Tryz.func128, Tryz.ntmps128
      go_wp2_with (refine (trunc_calls _ _ HF.out).mono ?_; rintro e w' ⟨rfl, rfl⟩)
      go_ret2
      exact ⟨rfl, rfl⟩
/-- A whole number of a size that fits. -/
def sm (n : Int) : Bool := decide (-9007199254740992 ≤ n ∧ n ≤ 9007199254740992)
theorem sm_yes {n : Int} (h1 : -9007199254740992 ≤ n) (h2 : n ≤ 9007199254740992) : sm n = true := decide_eq_true ⟨h1, h2⟩
theorem sm_of {n : Int} (h : sm n = true) : -9007199254740992 ≤ n ∧ n ≤ 9007199254740992 := of_decide_eq_true h
theorem ret_b {a b : Bool} (h : a = b) : Ending.returned (.bool a) = .returned (.bool b) := by rw [h]
theorem ret_i {k : IntKind} {a b : Int} (h : a = b) : Ending.returned (.int k a) = .returned (.int k b) := by rw [h]
/-- A product that fits. -/
def pm (a b : Int) : Bool := decide (a.natAbs * b.natAbs ≤ 9007199254740992)
end Go.Proofs.YtbfcdpabjailcaaGreatDoor

/- Package num, walked: sums, products, quotients; sides; whole numbers below and above. -/
namespace Go.Proofs.YtbfcdpabjailcaaGreatDoor
set_option maxRecDepth 100000
open Go.RowKit Fl
set_option linter.unusedVariables false
theorem flag_calls (b : Bool) (w : World) : Calls Tryz.prog 103 #[.bool b] w fun e w' => e = .returned (.float .f64 (if b then 4607182418800017408 else 0)) ∧ w = w' := by
  cases b
  all_goals
    go_enter Tryz.func103, Tryz.ntmps103
    go_wp2
    go_ret
    exact ⟨rfl, rfl⟩
theorem truth_calls (x : Nat) (w : World) (h : Fnt x) : Calls Tryz.prog 122 #[.float .f64 x] w fun e w' => e = .returned (.tuple #[.bool (decide (V x = pw 1074)), .bool (decide (V x = 0) || decide (V x = pw 1074))]) ∧ w = w' := by
  have hp := pw_pos 1074
  have key : (FloatKind.f64.format.order x 0 = some .eq ∧ FloatKind.f64.format.order x 4607182418800017408 = some .lt ∧ V x = 0 ∧ V x ≠ pw 1074)
     ∨ ((FloatKind.f64.format.order x 0 = some .gt ∨ FloatKind.f64.format.order x 0 = some .lt) ∧ (FloatKind.f64.format.order x 4607182418800017408 = some .lt ∨ FloatKind.f64.format.order x 4607182418800017408 = some .gt) ∧ V x ≠ 0 ∧ V x ≠ pw 1074)
     ∨ (FloatKind.f64.format.order x 0 = some .gt ∧ FloatKind.f64.format.order x 4607182418800017408 = some .eq ∧ V x ≠ 0 ∧ V x = pw 1074) := by
    have a := ord_cases h fin_zero
    have b := ord_cases h one_fin
    rw [V_zero] at a
    rw [V_one] at b
    rcases a with ⟨a1, a2⟩ | ⟨a1, a2⟩ | ⟨a1, a2⟩ <;> rcases b with ⟨b1, b2⟩ | ⟨b1, b2⟩ | ⟨b1, b2⟩ <;> first
      | omega
      | exact .inl ⟨a2, b2, by omega, by omega⟩
      | exact .inr (.inr ⟨a2, b2, by omega, by omega⟩)
      | exact .inr (.inl ⟨by first | exact .inl a2 | exact .inr a2, by first | exact .inl b2 | exact .inr b2, by omega, by omega⟩)
  clear h hp
  rcases key with ⟨h1, h2, h3, h4⟩ | ⟨h1 | h1, h2 | h2, h3, h4⟩ | ⟨h1, h2, h3, h4⟩
  all_goals
    have H3 := Lib.hid (show decide (V x = 0) = _ from by first | exact decide_eq_true h3 | exact decide_eq_false h3)
    have H4 := Lib.hid (show decide (V x = (pw 1074 : Int)) = _ from by first | exact decide_eq_true h4 | exact decide_eq_false h4)
    rw [H3.out, H4.out]
    clear h3 h4
    go_enter Tryz.func122, Tryz.ntmps122
    go_wp2
    go_ret2
    exact ⟨rfl, rfl⟩
end Go.Proofs.YtbfcdpabjailcaaGreatDoor

/- Package num, walked: rests. -/
namespace Go.Proofs.YtbfcdpabjailcaaGreatDoor
set_option maxRecDepth 100000
open Go.RowKit Fl
set_option linter.unusedVariables false
end Go.Proofs.YtbfcdpabjailcaaGreatDoor

/- Package num, walked: powers. -/
namespace Go.Proofs.YtbfcdpabjailcaaGreatDoor
set_option maxRecDepth 100000
open Go.RowKit Fl
set_option linter.unusedVariables false
end Go.Proofs.YtbfcdpabjailcaaGreatDoor

/- Layer 3's laws, walked: NumTidy, NumReckons, NumTurns, NumRests, NumPowers. -/
namespace Go.Proofs.YtbfcdpabjailcaaGreatDoor
set_option maxRecDepth 100000
open Go.RowKit Fl
set_option linter.unusedVariables false
theorem wh_of (n : Int) (h : n.natAbs ≤ 9007199254740992) : Wh (floatOfInt .f64 n) n := ⟨ofInt_fin n (by omega), h, ofInt_val n h⟩
theorem num_zero : Num 0 := ⟨fin_zero, fun _ => rfl⟩
end Go.Proofs.YtbfcdpabjailcaaGreatDoor

/- Layer 3's laws, walked: NumReckons, NumRests, NumPowers. Written by a program of mine. -/
namespace Go.Proofs.YtbfcdpabjailcaaGreatDoor
set_option maxRecDepth 100000
open Go.RowKit Fl
set_option linter.unusedVariables false
end Go.Proofs.YtbfcdpabjailcaaGreatDoor

/- Layer 3's laws, walked: NumWhole, NumSides. Written by a program of mine. -/
namespace Go.Proofs.YtbfcdpabjailcaaGreatDoor
set_option maxRecDepth 100000
open Go.RowKit Fl
set_option linter.unusedVariables false
end Go.Proofs.YtbfcdpabjailcaaGreatDoor

/- Floats of 64 bits as whole numbers of units: the value of a word, order, sums, products, whole numbers. Plain mathematics over the model's floats. -/
import Derived.Laws.FloatArith
namespace Go.Proofs.YtbdhibcbpgjbmaaGreatDoor.Fl
set_option maxRecDepth 100000
open Ieee
theorem log2_scale (n k : Nat) (hn : n ≠ 0) : (n * 2 ^ k).log2 = n.log2 + k := by
  have h1 := Nat.log2_self_le hn
  have h2 := @Nat.lt_log2_self n
  have hp : 0 < 2 ^ k := Nat.two_pow_pos k
  refine (Nat.log2_eq_iff (Nat.mul_ne_zero hn (by omega))).2 ⟨?_, ?_⟩
  · rw [Nat.pow_add]; exact Nat.mul_le_mul_right _ h1
  · rw [show n.log2 + k + 1 = (n.log2 + 1) + k by omega, Nat.pow_add]; exact Nat.mul_lt_mul_of_pos_right h2 hp
/-- Rounding to even at a cut: both scaled alike. -/
theorem cut_scale (s : Bool) (n d k : Nat) (hn : n ≠ 0) : Toward.even.cut s (n * 2 ^ k) (d + k) = Toward.even.cut s n d := by
  have hl := log2_scale n k hn
  have hm : min (d + k) (n.log2 + k + 2) = min d (n.log2 + 2) + k := by omega
  unfold Toward.cut
  simp only [hl, hm]
  have hg : 1 <<< (min d (n.log2 + 2) + k) = (1 <<< min d (n.log2 + 2)) * 2 ^ k := by
    simp [Nat.shiftLeft_eq, Nat.pow_add]
  have hp : 0 < 2 ^ k := Nat.two_pow_pos k
  rw [hg]
  generalize 1 <<< min d (n.log2 + 2) = g
  rw [Nat.mul_div_mul_right _ _ hp, Nat.mul_mod_mul_right]
  have e1 : (g * 2 ^ k < 2 * (n % g * 2 ^ k)) ↔ (g < 2 * (n % g)) := by
    rw [← Nat.mul_assoc]; exact Nat.mul_lt_mul_right hp
  have e2 : (g * 2 ^ k == 2 * (n % g * 2 ^ k)) = (g == 2 * (n % g)) := by
    rw [Bool.eq_iff_iff]
    simp only [beq_iff_eq]
    rw [← Nat.mul_assoc]
    exact Nat.mul_left_inj (by omega)
  simp only [e1, e2]
theorem cut_none (way : Toward) (s : Bool) (n : Nat) : way.cut s n 0 = n := by
  unfold Toward.cut
  cases way <;> simp [Nat.mod_one]
theorem cut_exact (s : Bool) (n k : Nat) (hn : n ≠ 0) : Toward.even.cut s (n * 2 ^ k) k = n := by
  have := cut_scale s n 0 k hn
  rw [Nat.zero_add, cut_none] at this
  exact this
/-- The nearest word of a number depends on its value alone. -/
theorem nearest_scale (f : Format) (s : Bool) (m k : Nat) (p : Int) : f.nearest s (m * 2 ^ k) (p - k) = f.nearest s m p := by
  by_cases hm : m = 0
  · subst hm; simp [Format.nearest]
  have hp : 0 < 2 ^ k := Nat.two_pow_pos k
  have hmk : m * 2 ^ k ≠ 0 := Nat.mul_ne_zero hm (by omega)
  unfold Format.nearest
  rw [if_neg hm, if_neg hmk, log2_scale m k hm]
  have hlast : max (p - (k : Int) + ((m.log2 + k : Nat) : Int) - f.fractionBits) f.leastPlace = max (p + (m.log2 : Int) - f.fractionBits) f.leastPlace := by congr 1; push_cast; omega
  simp only [hlast]
  generalize max (p + (m.log2 : Int) - f.fractionBits) f.leastPlace = l
  have hk : Toward.even.cut s ((m * 2 ^ k) <<< (p - (k : Int) - l).toNat) (l - (p - (k : Int))).toNat = Toward.even.cut s (m <<< (p - l).toNat) (l - p).toNat := by
    rcases Int.le_total l (p - k) with h | h
    · have a : (l - (p - (k : Int))).toNat = 0 := by omega
      have b : (l - p).toNat = 0 := by omega
      have c : (p - l).toNat = (p - (k : Int) - l).toNat + k := by omega
      rw [a, b, cut_none, cut_none, c, Nat.shiftLeft_eq, Nat.shiftLeft_eq, Nat.pow_add, Nat.mul_assoc, Nat.mul_comm (2 ^ k)]
    · have a : (p - (k : Int) - l).toNat = 0 := by omega
      rw [a, Nat.shiftLeft_zero]
      rcases Int.le_total l p with h2 | h2
      · have b : (l - p).toNat = 0 := by omega
        obtain ⟨c, hc⟩ : ∃ c, (p - l).toNat = c := ⟨_, rfl⟩
        obtain ⟨d, hd⟩ : ∃ d, (l - (p - (k : Int))).toNat = d := ⟨_, rfl⟩
        have e : k = c + d := by omega
        rw [b, cut_none, hc, hd, e, Nat.shiftLeft_eq, Nat.pow_add, ← Nat.mul_assoc]
        exact cut_exact _ _ _ (Nat.mul_ne_zero hm (by have := Nat.two_pow_pos c; omega))
      · have b : (p - l).toNat = 0 := by omega
        have c : (l - (p - (k : Int))).toNat = (l - p).toNat + k := by omega
        rw [b, Nat.shiftLeft_zero, c]
        exact cut_scale _ _ _ _ hm
  rw [hk]
/-- .. in units of the least place. -/
theorem nearest_unit (f : Format) (s : Bool) (m : Nat) (p : Int) (k : Nat) (h : p = f.leastPlace + k) : f.nearest s m p = f.nearest s (m * 2 ^ k) f.leastPlace := by
  rw [← nearest_scale f s m k p]
  congr 1; omega

/-- The value of a rung in units of the least place. -/
def U (r : Nat) : Nat := if r < 4503599627370496 then r else (4503599627370496 + r % 4503599627370496) * 2 ^ (r / 4503599627370496 - 1)
/-- The value of a word in units. -/
def V (b : Nat) : Int := if b / 9223372036854775808 % 2 == 1 then -(U (b % 9223372036854775808) : Int) else (U (b % 9223372036854775808) : Int)
def Fnt (b : Nat) : Prop := b < 18446744073709551616 ∧ b % 9223372036854775808 < 9218868437227405312
theorem dbl_least : double.leastPlace = -1074 := by decide
theorem dbl_binade : double.binade = 4503599627370496 := by decide
theorem dbl_inf : double.infRung = 9218868437227405312 := by decide
theorem dbl_sw : double.signWeight = 9223372036854775808 := by decide
/-- A finite word reads as a number of its value. -/
theorem read_fin {b : Nat} (h : Fnt b) : ∃ (m k : Nat), double.read b = .number (b / 9223372036854775808 % 2 == 1) m (-1074 + k) ∧ m * 2 ^ k = U (b % 9223372036854775808) ∧ m < 9007199254740992 := by
  unfold Format.read
  simp only [dbl_sw, dbl_binade, dbl_inf, dbl_least]
  unfold U
  by_cases h1 : b % 9223372036854775808 < 4503599627370496
  · simp only [h1, if_true]
    exact ⟨b % 9223372036854775808, 0, by simp, by simp, by omega⟩
  · simp only [h1, if_false, h.2, if_true]
    exact ⟨_, _, rfl, rfl, by omega⟩
theorem U_zero {r : Nat} : U r = 0 ↔ r = 0 := by
  unfold U
  split
  · exact Iff.rfl
  · have := Nat.two_pow_pos (r / 4503599627370496 - 1)
    constructor
    · intro h; rcases Nat.mul_eq_zero.1 h with h | h <;> omega
    · intro h; omega
/-- The nearest rung of a rung's value is the rung. -/
theorem nearest_U (s : Bool) (r : Nat) (h : r < 9218868437227405312) : double.nearest s (U r) (-1074) = double.word s r := by
  by_cases hz : r = 0
  · subst hz; simp [U, Format.nearest]
  have hu : U r ≠ 0 := fun e => hz (U_zero.1 e)
  unfold Format.nearest
  rw [if_neg hu]
  simp only [dbl_least, dbl_binade, dbl_inf, show double.fractionBits = 52 from rfl]
  congr 1
  by_cases h1 : r < 9007199254740992
  · have e : U r = r := by
      unfold U; split
      · rfl
      · rw [show r / 4503599627370496 - 1 = 0 by omega]; omega
    have hl : r.log2 < 53 := (Nat.log2_lt hz).2 (by omega)
    rw [e, show max (-1074 + (r.log2 : Int) - (52 : Nat)) (-1074) = -1074 by omega]
    simp [cut_none]; omega
  · obtain ⟨q, hq⟩ : ∃ q, r / 4503599627370496 = q + 2 := ⟨r / 4503599627370496 - 2, by omega⟩
    have e : U r = (4503599627370496 + r % 4503599627370496) * 2 ^ (q + 1) := by
      unfold U; rw [if_neg (by omega), hq]; rfl
    have hl0 : (4503599627370496 + r % 4503599627370496).log2 = 52 := (Nat.log2_eq_iff (by omega)).2 ⟨by omega, by omega⟩
    have hl : (U r).log2 = 52 + (q + 1) := by rw [e, log2_scale _ _ (by omega), hl0]
    rw [hl, show max (-1074 + ((52 + (q + 1) : Nat) : Int) - (52 : Nat)) (-1074) = -1074 + ((q + 1 : Nat) : Int) by omega]
    rw [show (-1074 - (-1074 + ((q + 1 : Nat) : Int))).toNat = 0 by omega, show (-1074 + ((q + 1 : Nat) : Int) - -1074).toNat = q + 1 by omega, Nat.shiftLeft_zero, e, cut_exact _ _ _ (by omega)]
    omega
/-- A finite word, written again, is itself. -/
theorem word_fin {b : Nat} (h : b < 18446744073709551616) : double.word (b / 9223372036854775808 % 2 == 1) (b % 9223372036854775808) = b := by
  unfold Format.word
  rw [dbl_sw]
  split <;> rename_i h1 <;> simp at h1 <;> omega
theorem nearest_fin {b : Nat} (h : Fnt b) : double.nearest (b / 9223372036854775808 % 2 == 1) (U (b % 9223372036854775808)) (-1074) = b := by
  rw [nearest_U _ _ h.2, word_fin h.1]
/-- A value of at most 53 bits is a rung's. -/
theorem rung_of (m e : Nat) (hm : m < 9007199254740992) (he : e ≤ 1992) : ∃ r, r < 9218868437227405312 ∧ U r = m * 2 ^ e := by
  by_cases h0 : m = 0
  · exact ⟨0, by decide, by subst h0; simp [U]⟩
  have hl : m.log2 < 53 := (Nat.log2_lt h0).2 (by omega)
  have hl1 := Nat.log2_self_le h0
  have hl2 := @Nat.lt_log2_self m
  obtain ⟨t, ht⟩ : ∃ t, m.log2 + t = 52 := ⟨52 - m.log2, by omega⟩
  have ha : 4503599627370496 ≤ m * 2 ^ t := by
    have := Nat.mul_le_mul_right (2 ^ t) hl1
    rw [← Nat.pow_add, ht] at this; exact this
  have hb : m * 2 ^ t < 9007199254740992 := by
    have := Nat.mul_lt_mul_of_pos_right hl2 (Nat.two_pow_pos t)
    rw [← Nat.pow_add, show m.log2 + 1 + t = 53 by omega] at this; exact this
  rcases Nat.lt_or_ge e t with h | h
  · refine ⟨m * 2 ^ e, ?_, ?_⟩
    · have : m * 2 ^ e ≤ m * 2 ^ t := Nat.mul_le_mul_left _ (Nat.pow_le_pow_right (by decide) (by omega))
      omega
    · have : m * 2 ^ e ≤ m * 2 ^ (t - 1) := Nat.mul_le_mul_left _ (Nat.pow_le_pow_right (by decide) (by omega))
      have h3 : m * 2 ^ t = 2 * (m * 2 ^ (t - 1)) := by rw [show t = (t - 1) + 1 by omega, Nat.pow_succ]; simp; rw [Nat.mul_comm 2, Nat.mul_assoc]
      unfold U; rw [if_pos (by omega)]
  · obtain ⟨d, rfl⟩ : ∃ d, e = t + d := ⟨e - t, by omega⟩
    obtain ⟨a, hA⟩ : ∃ a, m * 2 ^ t = 4503599627370496 + a := ⟨m * 2 ^ t - 4503599627370496, by omega⟩
    have ha' : a < 4503599627370496 := by omega
    clear hl hl1 hl2 hb ha h
    refine ⟨(d + 1) * 4503599627370496 + a, by omega, ?_⟩
    rw [Nat.pow_add, ← Nat.mul_assoc, hA]
    have e1 : ((d + 1) * 4503599627370496 + a) % 4503599627370496 = a := by omega
    have e2 : ((d + 1) * 4503599627370496 + a) / 4503599627370496 - 1 = d := by omega
    have e3 : ¬ ((d + 1) * 4503599627370496 + a) < 4503599627370496 := by omega
    unfold U
    rw [if_neg e3, e1, e2]
theorem sgn_abs (b : Nat) : V b = if b / 9223372036854775808 % 2 == 1 then -(U (b % 9223372036854775808) : Int) else (U (b % 9223372036854775808) : Int) := rfl
theorem V_abs (b : Nat) : (V b).natAbs = U (b % 9223372036854775808) := by
  unfold V; split <;> simp
theorem signed_mul (s : Bool) (m up k : Nat) : signed s m up * (2 ^ k : Nat) = signed s m (up + k) := by
  unfold signed
  cases s <;> simp [Nat.shiftLeft_eq, Nat.pow_add, Int.mul_assoc, Int.neg_mul]
theorem signed_val (s : Bool) (m k : Nat) : signed s m k = if s then -((m * 2 ^ k : Nat) : Int) else ((m * 2 ^ k : Nat) : Int) := by
  unfold signed; cases s <;> simp [Nat.shiftLeft_eq]
theorem compare_scale (x y : Int) (k : Nat) : compare (x * (2 ^ k : Nat)) (y * (2 ^ k : Nat)) = compare x y := by
  have hp : (0 : Int) < (2 ^ k : Nat) := by exact_mod_cast Nat.two_pow_pos k
  rcases Int.lt_trichotomy x y with h | h | h
  · rw [Int.compare_eq_lt.2 h, Int.compare_eq_lt.2 (Int.mul_lt_mul_of_pos_right h hp)]
  · rw [h, Int.compare_eq_eq.2 rfl, Int.compare_eq_eq.2 rfl]
  · rw [Int.compare_eq_gt.2 h, Int.compare_eq_gt.2 (Int.mul_lt_mul_of_pos_right h hp)]
/-- Two finite words stand to each other as their values do. -/
theorem order_fin {a b : Nat} (ha : Fnt a) (hb : Fnt b) : double.order a b = some (compare (V a) (V b)) := by
  obtain ⟨m, k, h1, h2, _⟩ := read_fin ha
  obtain ⟨n, j, g1, g2, _⟩ := read_fin hb
  unfold Format.order
  rw [h1, g1]
  simp only [Datum.order]
  congr 1
  obtain ⟨u, hu⟩ : ∃ u, min k j = u := ⟨_, rfl⟩
  rw [show min (-1074 + (k : Int)) (-1074 + (j : Int)) = -1074 + (u : Int) by omega,
    show (-1074 + (k : Int) - (-1074 + (u : Int))).toNat = k - u by omega, show (-1074 + (j : Int) - (-1074 + (u : Int))).toNat = j - u by omega,
    ← compare_scale _ _ u, signed_mul, signed_mul, show k - u + u = k by omega, show j - u + u = j by omega, signed_val, signed_val, h2, g2]
  rfl
theorem natAbs_scale (x : Int) (k : Nat) : (x * (2 ^ k : Nat)).natAbs = x.natAbs * 2 ^ k := by
  rw [Int.natAbs_mul]; simp
/-- The sum of two finite words: the word nearest to the sum of their values. -/
theorem sum_fin {s t : Bool} {m k n j : Nat} {x y : Int} (h2 : signed s m k = x) (g2 : signed t n j = y) :
    ((Datum.number s m (-1074 + k)).sum (Datum.number t n (-1074 + j))).map double.write = some (double.nearest (if x + y = 0 then s && t else decide (x + y < 0)) (x + y).natAbs (-1074)) := by
  obtain ⟨u, hu⟩ : ∃ u, min k j = u := ⟨_, rfl⟩
  simp only [Datum.sum, Option.map_some, Format.write]
  rw [show min (-1074 + (k : Int)) (-1074 + (j : Int)) = -1074 + (u : Int) by omega,
    show (-1074 + (k : Int) - (-1074 + (u : Int))).toNat = k - u by omega, show (-1074 + (j : Int) - (-1074 + (u : Int))).toNat = j - u by omega]
  have hx : signed s m (k - u) * (2 ^ u : Nat) = x := by rw [signed_mul, show k - u + u = k by omega, h2]
  have hy : signed t n (j - u) * (2 ^ u : Nat) = y := by rw [signed_mul, show j - u + u = j by omega, g2]
  rw [← hx, ← hy, ← Int.add_mul, natAbs_scale]
  generalize signed s m (k - u) + signed t n (j - u) = z
  have nu := fun s => nearest_unit double s z.natAbs (-1074 + u) u (by rw [dbl_least])
  simp only [dbl_least] at nu
  rw [← nu]
  have hp : (0 : Int) < (2 ^ u : Nat) := by exact_mod_cast Nat.two_pow_pos u
  have e1 : (z * (2 ^ u : Nat) = 0) ↔ z = 0 := by
    rw [Int.mul_eq_zero]; constructor
    · rintro (h | h)
      · exact h
      · omega
    · intro h; exact .inl h
  have e2 : (z * (2 ^ u : Nat) < 0) ↔ z < 0 := by
    constructor
    · intro h
      rcases Int.lt_or_le z 0 with h' | h'
      · exact h'
      · have := Int.mul_nonneg h' (Int.le_of_lt hp); omega
    · intro h
      have := Int.mul_lt_mul_of_pos_right h hp
      rwa [Int.zero_mul] at this
  simp only [e1, e2]
def sg (b : Nat) : Bool := b / 9223372036854775808 % 2 == 1
theorem read_fin' {b : Nat} (h : Fnt b) : ∃ (m k : Nat), double.read b = .number (sg b) m (-1074 + k) ∧ signed (sg b) m k = V b ∧ m * 2 ^ k = (V b).natAbs := by
  obtain ⟨m, k, h1, h2, _⟩ := read_fin h
  exact ⟨m, k, h1, by rw [signed_val, h2]; rfl, by rw [h2, V_abs]⟩
theorem add_fin {a b : Nat} (ha : Fnt a) (hb : Fnt b) : double.add a b = some (double.nearest (if V a + V b = 0 then sg a && sg b else decide (V a + V b < 0)) (V a + V b).natAbs (-1074)) := by
  obtain ⟨m, k, h1, h2, _⟩ := read_fin' ha
  obtain ⟨n, j, g1, g2, _⟩ := read_fin' hb
  unfold Format.add
  rw [h1, g1]
  exact sum_fin h2 g2
theorem sub_fin {a b : Nat} (ha : Fnt a) (hb : Fnt b) : double.sub a b = some (double.nearest (if V a - V b = 0 then sg a && !sg b else decide (V a - V b < 0)) (V a - V b).natAbs (-1074)) := by
  obtain ⟨m, k, h1, h2, _⟩ := read_fin' ha
  obtain ⟨n, j, g1, g2, _⟩ := read_fin' hb
  unfold Format.sub
  rw [h1, g1]
  have g3 : signed (!sg b) n j = -V b := by
    rw [← g2, signed_val, signed_val]; cases sg b <;> simp
  have := sum_fin h2 g3
  rw [← Int.sub_eq_add_neg] at this
  exact this
theorem mul_fin {a b : Nat} (ha : Fnt a) (hb : Fnt b) : double.mul a b = some (double.nearest (sg a ^^ sg b) ((V a).natAbs * (V b).natAbs) (-2148)) := by
  obtain ⟨m, k, h1, _, h2⟩ := read_fin' ha
  obtain ⟨n, j, g1, _, g2⟩ := read_fin' hb
  unfold Format.mul
  rw [h1, g1]
  simp only [Datum.product, Option.map_some, Format.write]
  rw [← h2, ← g2, show m * 2 ^ k * (n * 2 ^ j) = (m * n) * 2 ^ (k + j) by rw [Nat.pow_add]; simp only [Nat.mul_assoc, Nat.mul_left_comm], show (-2148 : Int) = (-1074 + (k : Int) + (-1074 + (j : Int))) - ((k + j : Nat) : Int) by omega, nearest_scale]
/-- A cut that isn't to the nearest: by division. -/
theorem cut_div (way : Toward) (s : Bool) (n d : Nat) (hw : way ≠ .even) :
    way.cut s n d = n / 2 ^ d + (match way with | .down => s && n % 2 ^ d != 0 | .up => !s && n % 2 ^ d != 0 | _ => false).toNat := by
  have key : n / (1 <<< min d (n.log2 + 2)) = n / 2 ^ d ∧ (n % (1 <<< min d (n.log2 + 2)) != 0) = (n % 2 ^ d != 0) := by
    rw [Nat.shiftLeft_eq, Nat.one_mul]
    rcases Nat.le_total d (n.log2 + 2) with h | h
    · rw [Nat.min_eq_left h]; exact ⟨rfl, rfl⟩
    · rw [Nat.min_eq_right h]
      have a1 : n < 2 ^ (n.log2 + 2) := Nat.lt_of_lt_of_le (@Nat.lt_log2_self n) (Nat.pow_le_pow_right (by decide) (by omega))
      have a2 : n < 2 ^ d := Nat.lt_of_lt_of_le a1 (Nat.pow_le_pow_right (by decide) h)
      rw [Nat.div_eq_of_lt a1, Nat.div_eq_of_lt a2, Nat.mod_eq_of_lt a1, Nat.mod_eq_of_lt a2]
      exact ⟨rfl, rfl⟩
  unfold Toward.cut
  simp only [key.1]
  cases way <;> simp only [key.2] <;> first | rfl | exact absurd rfl hw
theorem cut_down (s : Bool) (n d : Nat) : Toward.down.cut s n d = n / 2 ^ d + (s && n % 2 ^ d != 0).toNat := cut_div .down s n d (by decide)
theorem cut_up (s : Bool) (n d : Nat) : Toward.up.cut s n d = n / 2 ^ d + (!s && n % 2 ^ d != 0).toNat := cut_div .up s n d (by decide)
theorem cut_zero (s : Bool) (n d : Nat) : Toward.zero.cut s n d = n / 2 ^ d := by rw [cut_div .zero s n d (by decide)]; rfl
theorem integral_num (s : Bool) (m k K : Nat) (way : Toward) (hw : way ≠ .even) : (Datum.number s m (-(K : Int) + k)).integral way = .number s (way.cut s (m * 2 ^ k) K) 0 := by
  simp only [Datum.integral]
  congr 1
  rcases Nat.le_total k K with hk | hk
  · obtain ⟨d, rfl⟩ : ∃ d, K = d + k := ⟨K - k, by omega⟩
    rw [show (-((d + k : Nat) : Int) + (k : Int)).toNat = 0 by omega, show (-(-((d + k : Nat) : Int) + (k : Int))).toNat = d by omega, Nat.shiftLeft_zero]
    have hp : 0 < 2 ^ k := Nat.two_pow_pos k
    rw [cut_div way _ _ _ hw, cut_div way _ _ _ hw, Nat.pow_add, Nat.mul_div_mul_right _ _ hp, Nat.mul_mod_mul_right]
    have e : (m % 2 ^ d * 2 ^ k != 0) = (m % 2 ^ d != 0) := by
      rw [Bool.eq_iff_iff]; simp only [bne_iff_ne, ne_eq, Nat.mul_eq_zero]; omega
    rw [e]
  · obtain ⟨d, rfl⟩ : ∃ d, k = d + K := ⟨k - K, by omega⟩
    rw [show (-(K : Int) + ((d + K : Nat) : Int)).toNat = d by omega, show (-(-(K : Int) + ((d + K : Nat) : Int))).toNat = 0 by omega, cut_none, Nat.shiftLeft_eq,
      cut_div way _ _ _ hw, Nat.pow_add, ← Nat.mul_assoc, Nat.mul_div_cancel _ (Nat.two_pow_pos K), Nat.mul_mod_left]
    cases way <;> simp
/-- 2 to the power, not to be worked out. -/
def pw (k : Nat) : Nat := 2 ^ k
theorem pw_pos (k : Nat) : 0 < pw k := Nat.two_pow_pos k
theorem pw_add (j k : Nat) : pw (j + k) = pw j * pw k := Nat.pow_add ..
theorem pw_le {j k : Nat} (h : j ≤ k) : pw j ≤ pw k := Nat.pow_le_pow_right (by decide) h
theorem cut_zero' (s : Bool) (n d : Nat) : Toward.zero.cut s n d = n / pw d := cut_zero s n d
theorem cut_down' (s : Bool) (n d : Nat) : Toward.down.cut s n d = n / pw d + (s && n % pw d != 0).toNat := cut_down s n d
theorem cut_up' (s : Bool) (n d : Nat) : Toward.up.cut s n d = n / pw d + (!s && n % pw d != 0).toNat := cut_up s n d
/-- A finite word made whole: its value divided by the unit of whole numbers. -/
theorem integral_fin {b : Nat} (h : Fnt b) (way : Toward) (hw : way ≠ .even) : (double.read b).integral way = .number (sg b) (way.cut (sg b) (V b).natAbs 1074) 0 := by
  obtain ⟨m, k, h1, _, h2⟩ := read_fin' h
  rw [h1, ← h2]
  exact integral_num (sg b) m k 1074 way hw
theorem V_sg (b : Nat) : V b = if sg b then -((V b).natAbs : Int) else ((V b).natAbs : Int) := by
  rw [V_abs]; rfl
theorem toInt_num (s : Bool) (u K : Nat) : (match Datum.number s (Toward.zero.cut s u K) 0 with | .number s m _ => some (signed s m 0) | _ => none) = some ((if s then -(u : Int) else (u : Int)).tdiv (pw K)) := by
  simp only
  rw [cut_zero, signed_val, Nat.pow_zero, Nat.mul_one]
  congr 1
  unfold pw
  cases s <;> simp [Int.neg_tdiv]
theorem toInt_fin {b : Nat} (h : Fnt b) : (double.read b).toInt .zero = some ((V b).tdiv (pw 1074)) := by
  unfold Datum.toInt
  rw [integral_fin h .zero (by decide)]
  exact (toInt_num (sg b) (V b).natAbs 1074).trans (by rw [← V_sg])
/-- A number that is not too great is finite. -/
theorem cut_le (s : Bool) (n d : Nat) : Toward.even.cut s n d ≤ n / 2 ^ d + 1 := by
  have key : n / (1 <<< min d (n.log2 + 2)) = n / 2 ^ d := by
    rw [Nat.shiftLeft_eq, Nat.one_mul]
    rcases Nat.le_total d (n.log2 + 2) with h | h
    · rw [Nat.min_eq_left h]
    · rw [Nat.min_eq_right h]
      have a1 : n < 2 ^ (n.log2 + 2) := Nat.lt_of_lt_of_le (@Nat.lt_log2_self n) (Nat.pow_le_pow_right (by decide) (by omega))
      have a2 : n < 2 ^ d := Nat.lt_of_lt_of_le a1 (Nat.pow_le_pow_right (by decide) h)
      rw [Nat.div_eq_of_lt a1, Nat.div_eq_of_lt a2]
  unfold Toward.cut
  simp only [key]
  exact Nat.add_le_add_left (Bool.toNat_le _) _
theorem word_sg (s : Bool) (r : Nat) (h : r < 9223372036854775808) : double.word s r < 18446744073709551616 ∧ double.word s r % 9223372036854775808 = r ∧ sg (double.word s r) = s := by
  unfold Format.word sg
  rw [dbl_sw]
  cases s
  · simp; omega
  · simp; omega
theorem nearest_small (s : Bool) (m : Nat) (p : Int) (h : p + m.log2 ≤ 1000) : Fnt (double.nearest s m p) := by
  by_cases hm : m = 0
  · subst hm
    have := word_sg s 0 (by decide)
    simp only [Format.nearest, if_true]
    exact ⟨this.1, by rw [this.2.1]; decide⟩
  have h2 := @Nat.lt_log2_self m
  unfold Format.nearest
  rw [if_neg hm]
  simp only [dbl_least, dbl_binade, dbl_inf, show double.fractionBits = 52 from rfl]
  obtain ⟨l, hl⟩ : ∃ l, max (p + (m.log2 : Int) - (52 : Nat)) (-1074) = l := ⟨_, rfl⟩
  rw [hl]
  have hkept : Toward.even.cut s (m <<< (p - l).toNat) (l - p).toNat ≤ 9007199254740992 := by
    refine Nat.le_trans (cut_le _ _ _) ?_
    have : m <<< (p - l).toNat / 2 ^ (l - p).toNat < 2 ^ 53 := by
      refine (Nat.div_lt_iff_lt_mul (Nat.two_pow_pos _)).2 ?_
      rw [Nat.shiftLeft_eq]
      have := Nat.mul_lt_mul_of_pos_right h2 (Nat.two_pow_pos (p - l).toNat)
      rw [← Nat.pow_add] at this
      refine Nat.lt_of_lt_of_le this ?_
      rw [← Nat.pow_add]
      exact Nat.pow_le_pow_right (by decide) (by omega)
    omega
  generalize Toward.even.cut s (m <<< (p - l).toNat) (l - p).toNat = kept at hkept
  have hr : min ((l - -1074).toNat * 4503599627370496 + kept) 9218868437227405312 < 9218868437227405312 := by omega
  have := word_sg s _ (Nat.lt_trans hr (by decide))
  exact ⟨this.1, by rw [this.2.1]; exact hr⟩
theorem nearest_sg (s : Bool) (m : Nat) (p : Int) : sg (double.nearest s m p) = s := by
  unfold Format.nearest
  split
  · exact (word_sg s 0 (by decide)).2.2
  · exact (word_sg s _ (Nat.lt_of_le_of_lt (Nat.min_le_right ..) (by decide))).2.2
/-- A value of at most 53 bits is kept. -/
theorem nearest_rung (s : Bool) (u r : Nat) (hr : r < 9218868437227405312) (h : U r = u) : Fnt (double.nearest s u (-1074)) ∧ V (double.nearest s u (-1074)) = if s then -(u : Int) else u := by
  subst h
  rw [nearest_U s r hr]
  obtain ⟨a, b, c⟩ := word_sg s r (Nat.lt_trans hr (by decide))
  refine ⟨⟨a, by rw [b]; exact hr⟩, ?_⟩
  rw [V_sg, V_abs, b, c]
theorem U_eq (q f : Nat) (hf : f < 4503599627370496) : U ((q + 1) * 4503599627370496 + f) = (4503599627370496 + f) * pw q := by
  have e1 : ((q + 1) * 4503599627370496 + f) % 4503599627370496 = f := by omega
  have e2 : ((q + 1) * 4503599627370496 + f) / 4503599627370496 - 1 = q := by omega
  have e3 : ¬ ((q + 1) * 4503599627370496 + f) < 4503599627370496 := by omega
  unfold U
  rw [if_neg e3, e1, e2]; rfl
theorem rung_pw (m e : Nat) (hm : m < 9007199254740992) (he : e ≤ 1992) : ∃ r, r < 9218868437227405312 ∧ U r = m * pw e := rung_of m e hm he
/-- Whole numbers of at most 2^53 are floats. -/
theorem whole_rung (n K : Nat) (hK : K ≤ 1900) (h : n ≤ 9007199254740992) : ∃ r, r < 9218868437227405312 ∧ U r = n * pw K := by
  rcases Nat.lt_or_ge n 9007199254740992 with h' | h'
  · exact rung_pw n K h' (by omega)
  · have e : n = 1 * pw 53 := by rw [show pw 53 = 9007199254740992 from rfl]; omega
    obtain ⟨r, h1, h2⟩ := rung_pw 1 (53 + K) (by decide) (by omega)
    exact ⟨r, h1, by rw [h2, e, pw_add, Nat.mul_assoc]⟩
theorem nearest_pw (s : Bool) (m : Nat) (p : Int) (k : Nat) (h : p = -1074 + k) : double.nearest s m p = double.nearest s (m * pw k) (-1074) := nearest_unit double s m p k (by rw [dbl_least]; exact h)
theorem nearest_whole (s : Bool) (n : Nat) (h : n ≤ 9007199254740992) : Fnt (double.nearest s n 0) ∧ V (double.nearest s n 0) = if s then -((n * pw 1074 : Nat) : Int) else (n * pw 1074 : Nat) := by
  obtain ⟨r, h1, h2⟩ := whole_rung n 1074 (by decide) h
  rw [nearest_pw s n 0 1074 (by decide)]
  exact nearest_rung s _ r h1 h2
theorem ofInt_eq (n : Int) : Go.floatOfInt .f64 n = double.nearest (decide (n < 0)) n.natAbs 0 := rfl
theorem ofInt_fin (n : Int) (h : n.natAbs ≤ 9223372036854775808) : Fnt (Go.floatOfInt .f64 n) := by
  rw [ofInt_eq]
  refine nearest_small _ _ _ ?_
  by_cases hz : n.natAbs = 0
  · rw [hz]; decide
  · have := (Nat.log2_lt (k := 64) hz).2 (by omega)
    omega
theorem ofInt_val (n : Int) (h : n.natAbs ≤ 9007199254740992) : V (Go.floatOfInt .f64 n) = n * pw 1074 := by
  rw [ofInt_eq, (nearest_whole _ _ h).2]
  generalize pw 1074 = K
  by_cases hn : n < 0
  · obtain ⟨m, rfl⟩ : ∃ m : Nat, n = -(m : Int) := ⟨n.natAbs, by omega⟩
    rw [if_pos (by simpa using hn)]; simp [Int.neg_mul]
  · obtain ⟨m, rfl⟩ : ∃ m : Nat, n = (m : Int) := ⟨n.natAbs, by omega⟩
    rw [if_neg (by simp)]; simp
/-- Values rise with their rungs. -/
theorem U_step (r : Nat) : U r < U (r + 1) := by
  unfold U
  by_cases h1 : r + 1 < 4503599627370496
  · rw [if_pos h1, if_pos (by omega)]; omega
  · rw [if_neg h1]
    by_cases h2 : r < 4503599627370496
    · rw [if_pos h2, show (r + 1) / 4503599627370496 - 1 = 0 by omega]; omega
    · rw [if_neg h2]
      have hp := Nat.two_pow_pos (r / 4503599627370496 - 1)
      by_cases h3 : r % 4503599627370496 + 1 < 4503599627370496
      · rw [show (r + 1) / 4503599627370496 = r / 4503599627370496 by omega, show (r + 1) % 4503599627370496 = r % 4503599627370496 + 1 by omega]
        exact Nat.mul_lt_mul_of_pos_right (by omega) hp
      · rw [show (r + 1) / 4503599627370496 - 1 = (r / 4503599627370496 - 1) + 1 by omega, show (r + 1) % 4503599627370496 = 0 by omega, Nat.pow_succ]
        generalize 2 ^ (r / 4503599627370496 - 1) = q at *
        have := Nat.mul_lt_mul_of_pos_right (show 4503599627370496 + r % 4503599627370496 < 9007199254740992 by omega) hp
        omega
theorem U_mono {r s : Nat} (h : r < s) : U r < U s := by
  induction s with
  | zero => omega
  | succ s ih =>
    rcases Nat.lt_or_ge r s with h' | h'
    · exact Nat.lt_trans (ih h') (U_step s)
    · rw [show r = s by omega]; exact U_step s
theorem U_le {r s : Nat} (h : r ≤ s) : U r ≤ U s := by
  rcases Nat.lt_or_ge r s with h' | h'
  · exact Nat.le_of_lt (U_mono h')
  · rw [show r = s by omega]; exact Nat.le_refl _
theorem U_inj {r s : Nat} (h : U r = U s) : r = s := by
  rcases Nat.lt_trichotomy r s with h' | h' | h'
  · have := U_mono h'; omega
  · exact h'
  · have := U_mono h'; omega
/-- A number of the document: finite, and a zero has no sign. -/
def Num (x : Nat) : Prop := Fnt x ∧ (x % 9223372036854775808 = 0 → x = 0)
/-- A zero without a sign. -/
def ze (x : Nat) : Nat := if x % 9223372036854775808 = 0 then 0 else x
theorem fin_zero : Fnt 0 := ⟨by decide, by decide⟩
theorem ze_num {x : Nat} (h : Fnt x) : Num (ze x) := by
  unfold ze; split
  · exact ⟨fin_zero, fun _ => rfl⟩
  · exact ⟨h, fun e => absurd e ‹_›⟩
theorem V_zero : V 0 = 0 := by decide
theorem V_eq_zero {x : Nat} : V x = 0 ↔ x % 9223372036854775808 = 0 := by
  rw [← Int.natAbs_eq_zero, V_abs, U_zero]
theorem ze_val {x : Nat} : V (ze x) = V x := by
  unfold ze; split
  · rename_i h; rw [V_zero, V_eq_zero.2 h]
  · rfl
theorem ze_of_num {x : Nat} (h : Num x) : ze x = x := by
  unfold ze; split
  · rename_i e; exact (h.2 e).symm
  · rfl
/-- Words of one value and, if it is zero, one sign are one. -/
theorem V_inj {x y : Nat} (hx : Num x) (hy : Num y) (h : V x = V y) : x = y := by
  by_cases hz : V x = 0
  · rw [hx.2 (V_eq_zero.1 hz), hy.2 (V_eq_zero.1 (h ▸ hz))]
  · have h1 : U (x % 9223372036854775808) = U (y % 9223372036854775808) := by rw [← V_abs, ← V_abs, h]
    have h2 := U_inj h1
    have h3 : U (x % 9223372036854775808) ≠ 0 := by rw [← V_abs]; omega
    have hx1 := hx.1.1
    have hy1 := hy.1.1
    unfold V at h
    rw [← h2] at h
    generalize U (x % 9223372036854775808) = u at *
    by_cases a : x / 9223372036854775808 % 2 = 1 <;> by_cases b : y / 9223372036854775808 % 2 = 1 <;> simp [a, b] at h <;> omega
theorem ord_cases {a b : Nat} (ha : Fnt a) (hb : Fnt b) : (V a < V b ∧ double.order a b = some .lt) ∨ (V a = V b ∧ double.order a b = some .eq) ∨ (V b < V a ∧ double.order a b = some .gt) := by
  rw [order_fin ha hb]
  rcases Int.lt_trichotomy (V a) (V b) with h | h | h
  · exact .inl ⟨h, by rw [Int.compare_eq_lt.2 h]⟩
  · exact .inr (.inl ⟨h, by rw [Int.compare_eq_eq.2 h]⟩)
  · exact .inr (.inr ⟨h, by rw [Int.compare_eq_gt.2 h]⟩)
theorem ord_eq {a b : Nat} (ha : Fnt a) (hb : Fnt b) (h : V a = V b) : double.order a b = some .eq := by
  rw [order_fin ha hb, Int.compare_eq_eq.2 h]
theorem ord_lt {a b : Nat} (ha : Fnt a) (hb : Fnt b) (h : V a < V b) : double.order a b = some .lt := by
  rw [order_fin ha hb, Int.compare_eq_lt.2 h]
theorem ord_gt {a b : Nat} (ha : Fnt a) (hb : Fnt b) (h : V b < V a) : double.order a b = some .gt := by
  rw [order_fin ha hb, Int.compare_eq_gt.2 h]
theorem ord_ne {a b : Nat} (ha : Fnt a) (hb : Fnt b) (h : V a ≠ V b) : double.order a b = some .lt ∨ double.order a b = some .gt := by
  rcases ord_cases ha hb with h' | h' | h'
  · exact .inl h'.2
  · exact absurd h'.1 h
  · exact .inr h'.2
/-- What is no number: an infinity, or none at all. -/
theorem read_non {x : Nat} (h : x < 18446744073709551616) (hn : ¬ Fnt x) : (∃ s, double.read x = .infinity s ∧ x = double.word s 9218868437227405312) ∨ ∃ s t, double.read x = .nan s t := by
  have h2 : ¬ x % 9223372036854775808 < 9218868437227405312 := fun e => hn ⟨h, e⟩
  unfold Format.read
  simp only [dbl_sw, dbl_binade, dbl_inf, dbl_least]
  rw [if_neg (by omega), if_neg h2]
  by_cases h3 : x % 9223372036854775808 = 9218868437227405312
  · rw [if_pos h3]
    exact .inl ⟨_, rfl, by rw [← h3]; exact (word_fin h).symm⟩
  · rw [if_neg h3]; exact .inr ⟨_, _, rfl⟩
theorem ord_nan {x y : Nat} (h : ∃ s t, double.read x = .nan s t) : double.order x y = none := by
  obtain ⟨s, t, h⟩ := h
  unfold Format.order; rw [h]; rfl
theorem ord_nan' {x y : Nat} (h : ∃ s t, double.read y = .nan s t) : double.order x y = none := by
  obtain ⟨s, t, h⟩ := h
  unfold Format.order; rw [h]; cases double.read x <;> rfl
theorem nan_mod {x : Nat} (h : ∃ s t, double.read x = .nan s t) : ∃ s t, double.read (x % 9223372036854775808) = .nan s t := by
  obtain ⟨s, t, h⟩ := h
  unfold Format.read at h ⊢
  simp only [dbl_sw, dbl_binade, dbl_inf, dbl_least, Nat.mod_mod] at h ⊢
  split at h
  · cases h
  · split at h
    · cases h
    · split at h
      · cases h
      · rw [if_neg ‹_›, if_neg ‹_›, if_neg ‹_›]; exact ⟨_, _, rfl⟩
theorem max_fin : Fnt 9218868437227405311 := ⟨by decide, by decide⟩
theorem min_fin : Fnt 18442240474082181119 := ⟨by decide, by decide⟩
theorem V_max : V 9218868437227405311 = U 9218868437227405311 := by
  unfold V; rw [if_neg (by decide)]
theorem V_min : V 18442240474082181119 = -(U 9218868437227405311 : Int) := by
  unfold V; rw [if_pos (by decide)]
theorem V_bounds {x : Nat} (h : Fnt x) : V 18442240474082181119 ≤ V x ∧ V x ≤ V 9218868437227405311 := by
  have h1 : U (x % 9223372036854775808) ≤ U 9218868437227405311 := U_le (by have := h.2; omega)
  have h2 := V_abs x
  rw [V_max, V_min]
  generalize U 9218868437227405311 = m at *
  omega
theorem not_fin_inf (s : Bool) : ¬ Fnt (double.word s 9218868437227405312) := by
  cases s <;> exact fun h => absurd h.2 (by decide)
theorem mod_fin {x : Nat} (h : Fnt x) : Fnt (x % 9223372036854775808) := ⟨by omega, by have := h.2; omega⟩
theorem V_mod (x : Nat) : V (x % 9223372036854775808) = (V x).natAbs := by
  have h : ¬ (x % 9223372036854775808 / 9223372036854775808 % 2 == 1) = true := by simp
  rw [V_abs]
  unfold V
  rw [if_neg h, Nat.mod_mod]
/-- What comes of an operation: the number, or ErrDomain. -/
def rs (z : Nat) : Nat × Int := if z % 9223372036854775808 < 9218868437227405312 then (ze z, 0) else (0, 24)
theorem rs_fin {z : Nat} (h : Fnt z) : rs z = (ze z, 0) := if_pos h.2
theorem rs_non {z : Nat} (hz : z < 18446744073709551616) (h : ¬ Fnt z) : rs z = (0, 24) := if_neg fun e => h ⟨hz, e⟩
theorem rs_num (z : Nat) (hz : z < 18446744073709551616) : Num (rs z).1 := by
  unfold rs; split
  · exact ze_num ⟨hz, ‹_›⟩
  · exact ⟨fin_zero, fun _ => rfl⟩
end Go.Proofs.YtbdhibcbpgjbmaaGreatDoor.Fl

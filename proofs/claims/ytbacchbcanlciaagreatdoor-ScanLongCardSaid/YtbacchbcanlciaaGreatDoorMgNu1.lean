/- Merged: NuM, NuA, NuN, NuB, NuC, NuD, NuE, NuF, NuG, NuH. -/
import Derived.Laws.FloatArith
import Derived.Test.YtbacchbcanlciaaGreatDoorRows
import Derived.WalkKit
import Derived.WalkSpells
import Derived.WalkLawsBesides
import Derived.Lib.Hide
import Derived.Laws.BitsAllLaws
import Derived.Laws.Externs
import Derived.IntWalk
import Derived.Deep.Draws
import Derived.LoopTactic
import Derived.Below
namespace Go.Proofs.YtbacchbcanlciaaGreatDoor.Fl
set_option maxRecDepth 100000
open Ieee
theorem log2_scale (n k : Nat) (hn : n ≠ 0) : (n * 2 ^ k).log2 = n.log2 + k := by
  have h1 := Nat.log2_self_le hn
  have h2 := @Nat.lt_log2_self n
  have hp : 0 < 2 ^ k := Nat.two_pow_pos k
  refine (Nat.log2_eq_iff (Nat.mul_ne_zero hn (by omega))).2 ⟨?_, ?_⟩
  · rw [Nat.pow_add]; exact Nat.mul_le_mul_right _ h1
  · rw [show n.log2 + k + 1 = (n.log2 + 1) + k by omega, Nat.pow_add]; exact Nat.mul_lt_mul_of_pos_right h2 hp
theorem cut_scale (s : Bool) (n d k : Nat) (hn : n ≠ 0) : Toward.even.cut s (n * 2 ^ k) (d + k) = Toward.even.cut s n d := by
  have hl := log2_scale n k hn
  have hm : min (d + k) (n.log2 + k + 2) = min d (n.log2 + 2) + k := by omega
  unfold Toward.cut
  simp only [hl, hm]
  have hg : 1 <<< (min d (n.log2 + 2) + k) = (1 <<< min d (n.log2 + 2)) * 2 ^ k := by
    simp [Nat.shiftLeft_eq, Nat.pow_add]
  have hp : 0 < 2 ^ k := Nat.two_pow_pos k
  rw [hg]
  generalize 1 <<< min d (n.log2 + 2) = g
  rw [Nat.mul_div_mul_right _ _ hp, Nat.mul_mod_mul_right]
  have e1 : (g * 2 ^ k < 2 * (n % g * 2 ^ k)) ↔ (g < 2 * (n % g)) := by
    rw [← Nat.mul_assoc]; exact Nat.mul_lt_mul_right hp
  have e2 : (g * 2 ^ k == 2 * (n % g * 2 ^ k)) = (g == 2 * (n % g)) := by
    rw [Bool.eq_iff_iff]
    simp only [beq_iff_eq]
    rw [← Nat.mul_assoc]
    exact Nat.mul_left_inj (by omega)
  simp only [e1, e2]
theorem cut_none (way : Toward) (s : Bool) (n : Nat) : way.cut s n 0 = n := by
  unfold Toward.cut
  cases way <;> simp [Nat.mod_one]
theorem cut_exact (s : Bool) (n k : Nat) (hn : n ≠ 0) : Toward.even.cut s (n * 2 ^ k) k = n := by
  have := cut_scale s n 0 k hn
  rw [Nat.zero_add, cut_none] at this
  exact this
theorem nearest_scale (f : Format) (s : Bool) (m k : Nat) (p : Int) : f.nearest s (m * 2 ^ k) (p - k) = f.nearest s m p := by
  by_cases hm : m = 0
  · subst hm; simp [Format.nearest]
  have hp : 0 < 2 ^ k := Nat.two_pow_pos k
  have hmk : m * 2 ^ k ≠ 0 := Nat.mul_ne_zero hm (by omega)
  unfold Format.nearest
  rw [if_neg hm, if_neg hmk, log2_scale m k hm]
  have hlast : max (p - (k : Int) + ((m.log2 + k : Nat) : Int) - f.fractionBits) f.leastPlace = max (p + (m.log2 : Int) - f.fractionBits) f.leastPlace := by congr 1; push_cast; omega
  simp only [hlast]
  generalize max (p + (m.log2 : Int) - f.fractionBits) f.leastPlace = l
  have hk : Toward.even.cut s ((m * 2 ^ k) <<< (p - (k : Int) - l).toNat) (l - (p - (k : Int))).toNat = Toward.even.cut s (m <<< (p - l).toNat) (l - p).toNat := by
    rcases Int.le_total l (p - k) with h | h
    · have a : (l - (p - (k : Int))).toNat = 0 := by omega
      have b : (l - p).toNat = 0 := by omega
      have c : (p - l).toNat = (p - (k : Int) - l).toNat + k := by omega
      rw [a, b, cut_none, cut_none, c, Nat.shiftLeft_eq, Nat.shiftLeft_eq, Nat.pow_add, Nat.mul_assoc, Nat.mul_comm (2 ^ k)]
    · have a : (p - (k : Int) - l).toNat = 0 := by omega
      rw [a, Nat.shiftLeft_zero]
      rcases Int.le_total l p with h2 | h2
      · have b : (l - p).toNat = 0 := by omega
        obtain ⟨c, hc⟩ : ∃ c, (p - l).toNat = c := ⟨_, rfl⟩
        obtain ⟨d, hd⟩ : ∃ d, (l - (p - (k : Int))).toNat = d := ⟨_, rfl⟩
        have e : k = c + d := by omega
        rw [b, cut_none, hc, hd, e, Nat.shiftLeft_eq, Nat.pow_add, ← Nat.mul_assoc]
        exact cut_exact _ _ _ (Nat.mul_ne_zero hm (by have := Nat.two_pow_pos c; omega))
      · have b : (p - l).toNat = 0 := by omega
        have c : (l - (p - (k : Int))).toNat = (l - p).toNat + k := by omega
        rw [b, Nat.shiftLeft_zero, c]
        exact cut_scale _ _ _ _ hm
  rw [hk]
theorem nearest_unit (f : Format) (s : Bool) (m : Nat) (p : Int) (k : Nat) (h : p = f.leastPlace + k) : f.nearest s m p = f.nearest s (m * 2 ^ k) f.leastPlace := by
  rw [← nearest_scale f s m k p]
  congr 1; omega

def U (r : Nat) : Nat := if r < 4503599627370496 then r else (4503599627370496 + r % 4503599627370496) * 2 ^ (r / 4503599627370496 - 1)
def V (b : Nat) : Int := if b / 9223372036854775808 % 2 == 1 then -(U (b % 9223372036854775808) : Int) else (U (b % 9223372036854775808) : Int)
def Fnt (b : Nat) : Prop := b < 18446744073709551616 ∧ b % 9223372036854775808 < 9218868437227405312
theorem dbl_least : double.leastPlace = -1074 := by decide
theorem dbl_binade : double.binade = 4503599627370496 := by decide
theorem dbl_inf : double.infRung = 9218868437227405312 := by decide
theorem dbl_sw : double.signWeight = 9223372036854775808 := by decide
theorem read_fin {b : Nat} (h : Fnt b) : ∃ (m k : Nat), double.read b = .number (b / 9223372036854775808 % 2 == 1) m (-1074 + k) ∧ m * 2 ^ k = U (b % 9223372036854775808) ∧ m < 9007199254740992 := by
  unfold Format.read
  simp only [dbl_sw, dbl_binade, dbl_inf, dbl_least]
  unfold U
  by_cases h1 : b % 9223372036854775808 < 4503599627370496
  · simp only [h1, if_true]
    exact ⟨b % 9223372036854775808, 0, by simp, by simp, by omega⟩
  · simp only [h1, if_false, h.2, if_true]
    exact ⟨_, _, rfl, rfl, by omega⟩
theorem U_zero {r : Nat} : U r = 0 ↔ r = 0 := by
  unfold U
  split
  · exact Iff.rfl
  · have := Nat.two_pow_pos (r / 4503599627370496 - 1)
    constructor
    · intro h; rcases Nat.mul_eq_zero.1 h with h | h <;> omega
    · intro h; omega
theorem nearest_U (s : Bool) (r : Nat) (h : r < 9218868437227405312) : double.nearest s (U r) (-1074) = double.word s r := by
  by_cases hz : r = 0
  · subst hz; simp [U, Format.nearest]
  have hu : U r ≠ 0 := fun e => hz (U_zero.1 e)
  unfold Format.nearest
  rw [if_neg hu]
  simp only [dbl_least, dbl_binade, dbl_inf, show double.fractionBits = 52 from rfl]
  congr 1
  by_cases h1 : r < 9007199254740992
  · have e : U r = r := by
      unfold U; split
      · rfl
      · rw [show r / 4503599627370496 - 1 = 0 by omega]; omega
    have hl : r.log2 < 53 := (Nat.log2_lt hz).2 (by omega)
    rw [e, show max (-1074 + (r.log2 : Int) - (52 : Nat)) (-1074) = -1074 by omega]
    simp [cut_none]; omega
  · obtain ⟨q, hq⟩ : ∃ q, r / 4503599627370496 = q + 2 := ⟨r / 4503599627370496 - 2, by omega⟩
    have e : U r = (4503599627370496 + r % 4503599627370496) * 2 ^ (q + 1) := by
      unfold U; rw [if_neg (by omega), hq]; rfl
    have hl0 : (4503599627370496 + r % 4503599627370496).log2 = 52 := (Nat.log2_eq_iff (by omega)).2 ⟨by omega, by omega⟩
    have hl : (U r).log2 = 52 + (q + 1) := by rw [e, log2_scale _ _ (by omega), hl0]
    rw [hl, show max (-1074 + ((52 + (q + 1) : Nat) : Int) - (52 : Nat)) (-1074) = -1074 + ((q + 1 : Nat) : Int) by omega]
    rw [show (-1074 - (-1074 + ((q + 1 : Nat) : Int))).toNat = 0 by omega, show (-1074 + ((q + 1 : Nat) : Int) - -1074).toNat = q + 1 by omega, Nat.shiftLeft_zero, e, cut_exact _ _ _ (by omega)]
    omega
theorem word_fin {b : Nat} (h : b < 18446744073709551616) : double.word (b / 9223372036854775808 % 2 == 1) (b % 9223372036854775808) = b := by
  unfold Format.word
  rw [dbl_sw]
  split <;> rename_i h1 <;> simp at h1 <;> omega
theorem nearest_fin {b : Nat} (h : Fnt b) : double.nearest (b / 9223372036854775808 % 2 == 1) (U (b % 9223372036854775808)) (-1074) = b := by
  rw [nearest_U _ _ h.2, word_fin h.1]
theorem rung_of (m e : Nat) (hm : m < 9007199254740992) (he : e ≤ 1992) : ∃ r, r < 9218868437227405312 ∧ U r = m * 2 ^ e := by
  by_cases h0 : m = 0
  · exact ⟨0, by decide, by subst h0; simp [U]⟩
  have hl : m.log2 < 53 := (Nat.log2_lt h0).2 (by omega)
  have hl1 := Nat.log2_self_le h0
  have hl2 := @Nat.lt_log2_self m
  obtain ⟨t, ht⟩ : ∃ t, m.log2 + t = 52 := ⟨52 - m.log2, by omega⟩
  have ha : 4503599627370496 ≤ m * 2 ^ t := by
    have := Nat.mul_le_mul_right (2 ^ t) hl1
    rw [← Nat.pow_add, ht] at this; exact this
  have hb : m * 2 ^ t < 9007199254740992 := by
    have := Nat.mul_lt_mul_of_pos_right hl2 (Nat.two_pow_pos t)
    rw [← Nat.pow_add, show m.log2 + 1 + t = 53 by omega] at this; exact this
  rcases Nat.lt_or_ge e t with h | h
  · refine ⟨m * 2 ^ e, ?_, ?_⟩
    · have : m * 2 ^ e ≤ m * 2 ^ t := Nat.mul_le_mul_left _ (Nat.pow_le_pow_right (by decide) (by omega))
      omega
    · have : m * 2 ^ e ≤ m * 2 ^ (t - 1) := Nat.mul_le_mul_left _ (Nat.pow_le_pow_right (by decide) (by omega))
      have h3 : m * 2 ^ t = 2 * (m * 2 ^ (t - 1)) := by rw [show t = (t - 1) + 1 by omega, Nat.pow_succ]; simp; rw [Nat.mul_comm 2, Nat.mul_assoc]
      unfold U; rw [if_pos (by omega)]
  · obtain ⟨d, rfl⟩ : ∃ d, e = t + d := ⟨e - t, by omega⟩
    obtain ⟨a, hA⟩ : ∃ a, m * 2 ^ t = 4503599627370496 + a := ⟨m * 2 ^ t - 4503599627370496, by omega⟩
    have ha' : a < 4503599627370496 := by omega
    clear hl hl1 hl2 hb ha h
    refine ⟨(d + 1) * 4503599627370496 + a, by omega, ?_⟩
    rw [Nat.pow_add, ← Nat.mul_assoc, hA]
    have e1 : ((d + 1) * 4503599627370496 + a) % 4503599627370496 = a := by omega
    have e2 : ((d + 1) * 4503599627370496 + a) / 4503599627370496 - 1 = d := by omega
    have e3 : ¬ ((d + 1) * 4503599627370496 + a) < 4503599627370496 := by omega
    unfold U
    rw [if_neg e3, e1, e2]
theorem V_abs (b : Nat) : (V b).natAbs = U (b % 9223372036854775808) := by
  unfold V; split <;> simp
theorem signed_mul (s : Bool) (m up k : Nat) : signed s m up * (2 ^ k : Nat) = signed s m (up + k) := by
  unfold signed
  cases s <;> simp [Nat.shiftLeft_eq, Nat.pow_add, Int.mul_assoc, Int.neg_mul]
theorem signed_val (s : Bool) (m k : Nat) : signed s m k = if s then -((m * 2 ^ k : Nat) : Int) else ((m * 2 ^ k : Nat) : Int) := by
  unfold signed; cases s <;> simp [Nat.shiftLeft_eq]
theorem compare_scale (x y : Int) (k : Nat) : compare (x * (2 ^ k : Nat)) (y * (2 ^ k : Nat)) = compare x y := by
  have hp : (0 : Int) < (2 ^ k : Nat) := by exact_mod_cast Nat.two_pow_pos k
  rcases Int.lt_trichotomy x y with h | h | h
  · rw [Int.compare_eq_lt.2 h, Int.compare_eq_lt.2 (Int.mul_lt_mul_of_pos_right h hp)]
  · rw [h, Int.compare_eq_eq.2 rfl, Int.compare_eq_eq.2 rfl]
  · rw [Int.compare_eq_gt.2 h, Int.compare_eq_gt.2 (Int.mul_lt_mul_of_pos_right h hp)]
theorem order_fin {a b : Nat} (ha : Fnt a) (hb : Fnt b) : double.order a b = some (compare (V a) (V b)) := by
  obtain ⟨m, k, h1, h2, _⟩ := read_fin ha
  obtain ⟨n, j, g1, g2, _⟩ := read_fin hb
  unfold Format.order
  rw [h1, g1]
  simp only [Datum.order]
  congr 1
  obtain ⟨u, hu⟩ : ∃ u, min k j = u := ⟨_, rfl⟩
  rw [show min (-1074 + (k : Int)) (-1074 + (j : Int)) = -1074 + (u : Int) by omega,
    show (-1074 + (k : Int) - (-1074 + (u : Int))).toNat = k - u by omega, show (-1074 + (j : Int) - (-1074 + (u : Int))).toNat = j - u by omega,
    ← compare_scale _ _ u, signed_mul, signed_mul, show k - u + u = k by omega, show j - u + u = j by omega, signed_val, signed_val, h2, g2]
  rfl
theorem natAbs_scale (x : Int) (k : Nat) : (x * (2 ^ k : Nat)).natAbs = x.natAbs * 2 ^ k := by
  rw [Int.natAbs_mul]; simp
theorem sum_fin {s t : Bool} {m k n j : Nat} {x y : Int} (h2 : signed s m k = x) (g2 : signed t n j = y) :
    ((Datum.number s m (-1074 + k)).sum (Datum.number t n (-1074 + j))).map double.write = some (double.nearest (if x + y = 0 then s && t else decide (x + y < 0)) (x + y).natAbs (-1074)) := by
  obtain ⟨u, hu⟩ : ∃ u, min k j = u := ⟨_, rfl⟩
  simp only [Datum.sum, Option.map_some, Format.write]
  rw [show min (-1074 + (k : Int)) (-1074 + (j : Int)) = -1074 + (u : Int) by omega,
    show (-1074 + (k : Int) - (-1074 + (u : Int))).toNat = k - u by omega, show (-1074 + (j : Int) - (-1074 + (u : Int))).toNat = j - u by omega]
  have hx : signed s m (k - u) * (2 ^ u : Nat) = x := by rw [signed_mul, show k - u + u = k by omega, h2]
  have hy : signed t n (j - u) * (2 ^ u : Nat) = y := by rw [signed_mul, show j - u + u = j by omega, g2]
  rw [← hx, ← hy, ← Int.add_mul, natAbs_scale]
  generalize signed s m (k - u) + signed t n (j - u) = z
  have nu := fun s => nearest_unit double s z.natAbs (-1074 + u) u (by rw [dbl_least])
  simp only [dbl_least] at nu
  rw [← nu]
  have hp : (0 : Int) < (2 ^ u : Nat) := by exact_mod_cast Nat.two_pow_pos u
  have e1 : (z * (2 ^ u : Nat) = 0) ↔ z = 0 := by
    rw [Int.mul_eq_zero]; constructor
    · rintro (h | h)
      · exact h
      · omega
    · intro h; exact .inl h
  have e2 : (z * (2 ^ u : Nat) < 0) ↔ z < 0 := by
    constructor
    · intro h
      rcases Int.lt_or_le z 0 with h' | h'
      · exact h'
      · have := Int.mul_nonneg h' (Int.le_of_lt hp); omega
    · intro h
      have := Int.mul_lt_mul_of_pos_right h hp
      rwa [Int.zero_mul] at this
  simp only [e1, e2]
def sg (b : Nat) : Bool := b / 9223372036854775808 % 2 == 1
theorem read_fin' {b : Nat} (h : Fnt b) : ∃ (m k : Nat), double.read b = .number (sg b) m (-1074 + k) ∧ signed (sg b) m k = V b ∧ m * 2 ^ k = (V b).natAbs := by
  obtain ⟨m, k, h1, h2, _⟩ := read_fin h
  exact ⟨m, k, h1, by rw [signed_val, h2]; rfl, by rw [h2, V_abs]⟩
theorem add_fin {a b : Nat} (ha : Fnt a) (hb : Fnt b) : double.add a b = some (double.nearest (if V a + V b = 0 then sg a && sg b else decide (V a + V b < 0)) (V a + V b).natAbs (-1074)) := by
  obtain ⟨m, k, h1, h2, _⟩ := read_fin' ha
  obtain ⟨n, j, g1, g2, _⟩ := read_fin' hb
  unfold Format.add
  rw [h1, g1]
  exact sum_fin h2 g2
theorem sub_fin {a b : Nat} (ha : Fnt a) (hb : Fnt b) : double.sub a b = some (double.nearest (if V a - V b = 0 then sg a && !sg b else decide (V a - V b < 0)) (V a - V b).natAbs (-1074)) := by
  obtain ⟨m, k, h1, h2, _⟩ := read_fin' ha
  obtain ⟨n, j, g1, g2, _⟩ := read_fin' hb
  unfold Format.sub
  rw [h1, g1]
  have g3 : signed (!sg b) n j = -V b := by
    rw [← g2, signed_val, signed_val]; cases sg b <;> simp
  have := sum_fin h2 g3
  rw [← Int.sub_eq_add_neg] at this
  exact this
theorem mul_fin {a b : Nat} (ha : Fnt a) (hb : Fnt b) : double.mul a b = some (double.nearest (sg a ^^ sg b) ((V a).natAbs * (V b).natAbs) (-2148)) := by
  obtain ⟨m, k, h1, _, h2⟩ := read_fin' ha
  obtain ⟨n, j, g1, _, g2⟩ := read_fin' hb
  unfold Format.mul
  rw [h1, g1]
  simp only [Datum.product, Option.map_some, Format.write]
  rw [← h2, ← g2, show m * 2 ^ k * (n * 2 ^ j) = (m * n) * 2 ^ (k + j) by rw [Nat.pow_add]; simp only [Nat.mul_assoc, Nat.mul_left_comm], show (-2148 : Int) = (-1074 + (k : Int) + (-1074 + (j : Int))) - ((k + j : Nat) : Int) by omega, nearest_scale]
theorem cut_div (way : Toward) (s : Bool) (n d : Nat) (hw : way ≠ .even) :
    way.cut s n d = n / 2 ^ d + (match way with | .down => s && n % 2 ^ d != 0 | .up => !s && n % 2 ^ d != 0 | _ => false).toNat := by
  have key : n / (1 <<< min d (n.log2 + 2)) = n / 2 ^ d ∧ (n % (1 <<< min d (n.log2 + 2)) != 0) = (n % 2 ^ d != 0) := by
    rw [Nat.shiftLeft_eq, Nat.one_mul]
    rcases Nat.le_total d (n.log2 + 2) with h | h
    · rw [Nat.min_eq_left h]; exact ⟨rfl, rfl⟩
    · rw [Nat.min_eq_right h]
      have a1 : n < 2 ^ (n.log2 + 2) := Nat.lt_of_lt_of_le (@Nat.lt_log2_self n) (Nat.pow_le_pow_right (by decide) (by omega))
      have a2 : n < 2 ^ d := Nat.lt_of_lt_of_le a1 (Nat.pow_le_pow_right (by decide) h)
      rw [Nat.div_eq_of_lt a1, Nat.div_eq_of_lt a2, Nat.mod_eq_of_lt a1, Nat.mod_eq_of_lt a2]
      exact ⟨rfl, rfl⟩
  unfold Toward.cut
  simp only [key.1]
  cases way <;> simp only [key.2] <;> first | rfl | exact absurd rfl hw
theorem cut_zero (s : Bool) (n d : Nat) : Toward.zero.cut s n d = n / 2 ^ d := by rw [cut_div .zero s n d (by decide)]; rfl
theorem integral_num (s : Bool) (m k K : Nat) (way : Toward) (hw : way ≠ .even) : (Datum.number s m (-(K : Int) + k)).integral way = .number s (way.cut s (m * 2 ^ k) K) 0 := by
  simp only [Datum.integral]
  congr 1
  rcases Nat.le_total k K with hk | hk
  · obtain ⟨d, rfl⟩ : ∃ d, K = d + k := ⟨K - k, by omega⟩
    rw [show (-((d + k : Nat) : Int) + (k : Int)).toNat = 0 by omega, show (-(-((d + k : Nat) : Int) + (k : Int))).toNat = d by omega, Nat.shiftLeft_zero]
    have hp : 0 < 2 ^ k := Nat.two_pow_pos k
    rw [cut_div way _ _ _ hw, cut_div way _ _ _ hw, Nat.pow_add, Nat.mul_div_mul_right _ _ hp, Nat.mul_mod_mul_right]
    have e : (m % 2 ^ d * 2 ^ k != 0) = (m % 2 ^ d != 0) := by
      rw [Bool.eq_iff_iff]; simp only [bne_iff_ne, ne_eq, Nat.mul_eq_zero]; omega
    rw [e]
  · obtain ⟨d, rfl⟩ : ∃ d, k = d + K := ⟨k - K, by omega⟩
    rw [show (-(K : Int) + ((d + K : Nat) : Int)).toNat = d by omega, show (-(-(K : Int) + ((d + K : Nat) : Int))).toNat = 0 by omega, cut_none, Nat.shiftLeft_eq,
      cut_div way _ _ _ hw, Nat.pow_add, ← Nat.mul_assoc, Nat.mul_div_cancel _ (Nat.two_pow_pos K), Nat.mul_mod_left]
    cases way <;> simp
def pw (k : Nat) : Nat := 2 ^ k
theorem pw_pos (k : Nat) : 0 < pw k := Nat.two_pow_pos k
theorem pw_add (j k : Nat) : pw (j + k) = pw j * pw k := Nat.pow_add ..
theorem cut_zero' (s : Bool) (n d : Nat) : Toward.zero.cut s n d = n / pw d := cut_zero s n d
theorem integral_fin {b : Nat} (h : Fnt b) (way : Toward) (hw : way ≠ .even) : (double.read b).integral way = .number (sg b) (way.cut (sg b) (V b).natAbs 1074) 0 := by
  obtain ⟨m, k, h1, _, h2⟩ := read_fin' h
  rw [h1, ← h2]
  exact integral_num (sg b) m k 1074 way hw
theorem V_sg (b : Nat) : V b = if sg b then -((V b).natAbs : Int) else ((V b).natAbs : Int) := by
  rw [V_abs]; rfl
theorem toInt_num (s : Bool) (u K : Nat) : (match Datum.number s (Toward.zero.cut s u K) 0 with | .number s m _ => some (signed s m 0) | _ => none) = some ((if s then -(u : Int) else (u : Int)).tdiv (pw K)) := by
  simp only
  rw [cut_zero, signed_val, Nat.pow_zero, Nat.mul_one]
  congr 1
  unfold pw
  cases s <;> simp [Int.neg_tdiv]
theorem toInt_fin {b : Nat} (h : Fnt b) : (double.read b).toInt .zero = some ((V b).tdiv (pw 1074)) := by
  unfold Datum.toInt
  rw [integral_fin h .zero (by decide)]
  exact (toInt_num (sg b) (V b).natAbs 1074).trans (by rw [← V_sg])
theorem cut_le (s : Bool) (n d : Nat) : Toward.even.cut s n d ≤ n / 2 ^ d + 1 := by
  have key : n / (1 <<< min d (n.log2 + 2)) = n / 2 ^ d := by
    rw [Nat.shiftLeft_eq, Nat.one_mul]
    rcases Nat.le_total d (n.log2 + 2) with h | h
    · rw [Nat.min_eq_left h]
    · rw [Nat.min_eq_right h]
      have a1 : n < 2 ^ (n.log2 + 2) := Nat.lt_of_lt_of_le (@Nat.lt_log2_self n) (Nat.pow_le_pow_right (by decide) (by omega))
      have a2 : n < 2 ^ d := Nat.lt_of_lt_of_le a1 (Nat.pow_le_pow_right (by decide) h)
      rw [Nat.div_eq_of_lt a1, Nat.div_eq_of_lt a2]
  unfold Toward.cut
  simp only [key]
  exact Nat.add_le_add_left (Bool.toNat_le _) _
theorem word_sg (s : Bool) (r : Nat) (h : r < 9223372036854775808) : double.word s r < 18446744073709551616 ∧ double.word s r % 9223372036854775808 = r ∧ sg (double.word s r) = s := by
  unfold Format.word sg
  rw [dbl_sw]
  cases s
  · simp; omega
  · simp; omega
theorem nearest_small (s : Bool) (m : Nat) (p : Int) (h : p + m.log2 ≤ 1000) : Fnt (double.nearest s m p) := by
  by_cases hm : m = 0
  · subst hm
    have := word_sg s 0 (by decide)
    simp only [Format.nearest, if_true]
    exact ⟨this.1, by rw [this.2.1]; decide⟩
  have h2 := @Nat.lt_log2_self m
  unfold Format.nearest
  rw [if_neg hm]
  simp only [dbl_least, dbl_binade, dbl_inf, show double.fractionBits = 52 from rfl]
  obtain ⟨l, hl⟩ : ∃ l, max (p + (m.log2 : Int) - (52 : Nat)) (-1074) = l := ⟨_, rfl⟩
  rw [hl]
  have hkept : Toward.even.cut s (m <<< (p - l).toNat) (l - p).toNat ≤ 9007199254740992 := by
    refine Nat.le_trans (cut_le _ _ _) ?_
    have : m <<< (p - l).toNat / 2 ^ (l - p).toNat < 2 ^ 53 := by
      refine (Nat.div_lt_iff_lt_mul (Nat.two_pow_pos _)).2 ?_
      rw [Nat.shiftLeft_eq]
      have := Nat.mul_lt_mul_of_pos_right h2 (Nat.two_pow_pos (p - l).toNat)
      rw [← Nat.pow_add] at this
      refine Nat.lt_of_lt_of_le this ?_
      rw [← Nat.pow_add]
      exact Nat.pow_le_pow_right (by decide) (by omega)
    omega
  generalize Toward.even.cut s (m <<< (p - l).toNat) (l - p).toNat = kept at hkept
  have hr : min ((l - -1074).toNat * 4503599627370496 + kept) 9218868437227405312 < 9218868437227405312 := by omega
  have := word_sg s _ (Nat.lt_trans hr (by decide))
  exact ⟨this.1, by rw [this.2.1]; exact hr⟩
theorem nearest_sg (s : Bool) (m : Nat) (p : Int) : sg (double.nearest s m p) = s := by
  unfold Format.nearest
  split
  · exact (word_sg s 0 (by decide)).2.2
  · exact (word_sg s _ (Nat.lt_of_le_of_lt (Nat.min_le_right ..) (by decide))).2.2
theorem nearest_rung (s : Bool) (u r : Nat) (hr : r < 9218868437227405312) (h : U r = u) : Fnt (double.nearest s u (-1074)) ∧ V (double.nearest s u (-1074)) = if s then -(u : Int) else u := by
  subst h
  rw [nearest_U s r hr]
  obtain ⟨a, b, c⟩ := word_sg s r (Nat.lt_trans hr (by decide))
  refine ⟨⟨a, by rw [b]; exact hr⟩, ?_⟩
  rw [V_sg, V_abs, b, c]
theorem U_eq (q f : Nat) (hf : f < 4503599627370496) : U ((q + 1) * 4503599627370496 + f) = (4503599627370496 + f) * pw q := by
  have e1 : ((q + 1) * 4503599627370496 + f) % 4503599627370496 = f := by omega
  have e2 : ((q + 1) * 4503599627370496 + f) / 4503599627370496 - 1 = q := by omega
  have e3 : ¬ ((q + 1) * 4503599627370496 + f) < 4503599627370496 := by omega
  unfold U
  rw [if_neg e3, e1, e2]; rfl
theorem rung_pw (m e : Nat) (hm : m < 9007199254740992) (he : e ≤ 1992) : ∃ r, r < 9218868437227405312 ∧ U r = m * pw e := rung_of m e hm he
theorem whole_rung (n K : Nat) (hK : K ≤ 1900) (h : n ≤ 9007199254740992) : ∃ r, r < 9218868437227405312 ∧ U r = n * pw K := by
  rcases Nat.lt_or_ge n 9007199254740992 with h' | h'
  · exact rung_pw n K h' (by omega)
  · have e : n = 1 * pw 53 := by rw [show pw 53 = 9007199254740992 from rfl]; omega
    obtain ⟨r, h1, h2⟩ := rung_pw 1 (53 + K) (by decide) (by omega)
    exact ⟨r, h1, by rw [h2, e, pw_add, Nat.mul_assoc]⟩
theorem nearest_pw (s : Bool) (m : Nat) (p : Int) (k : Nat) (h : p = -1074 + k) : double.nearest s m p = double.nearest s (m * pw k) (-1074) := nearest_unit double s m p k (by rw [dbl_least]; exact h)
theorem nearest_whole (s : Bool) (n : Nat) (h : n ≤ 9007199254740992) : Fnt (double.nearest s n 0) ∧ V (double.nearest s n 0) = if s then -((n * pw 1074 : Nat) : Int) else (n * pw 1074 : Nat) := by
  obtain ⟨r, h1, h2⟩ := whole_rung n 1074 (by decide) h
  rw [nearest_pw s n 0 1074 (by decide)]
  exact nearest_rung s _ r h1 h2
theorem ofInt_eq (n : Int) : Go.floatOfInt .f64 n = double.nearest (decide (n < 0)) n.natAbs 0 := rfl
theorem ofInt_fin (n : Int) (h : n.natAbs ≤ 9223372036854775808) : Fnt (Go.floatOfInt .f64 n) := by
  rw [ofInt_eq]
  refine nearest_small _ _ _ ?_
  by_cases hz : n.natAbs = 0
  · rw [hz]; decide
  · have := (Nat.log2_lt (k := 64) hz).2 (by omega)
    omega
theorem ofInt_val (n : Int) (h : n.natAbs ≤ 9007199254740992) : V (Go.floatOfInt .f64 n) = n * pw 1074 := by
  rw [ofInt_eq, (nearest_whole _ _ h).2]
  generalize pw 1074 = K
  by_cases hn : n < 0
  · obtain ⟨m, rfl⟩ : ∃ m : Nat, n = -(m : Int) := ⟨n.natAbs, by omega⟩
    rw [if_pos (by simpa using hn)]; simp [Int.neg_mul]
  · obtain ⟨m, rfl⟩ : ∃ m : Nat, n = (m : Int) := ⟨n.natAbs, by omega⟩
    rw [if_neg (by simp)]; simp
theorem U_step (r : Nat) : U r < U (r + 1) := by
  unfold U
  by_cases h1 : r + 1 < 4503599627370496
  · rw [if_pos h1, if_pos (by omega)]; omega
  · rw [if_neg h1]
    by_cases h2 : r < 4503599627370496
    · rw [if_pos h2, show (r + 1) / 4503599627370496 - 1 = 0 by omega]; omega
    · rw [if_neg h2]
      have hp := Nat.two_pow_pos (r / 4503599627370496 - 1)
      by_cases h3 : r % 4503599627370496 + 1 < 4503599627370496
      · rw [show (r + 1) / 4503599627370496 = r / 4503599627370496 by omega, show (r + 1) % 4503599627370496 = r % 4503599627370496 + 1 by omega]
        exact Nat.mul_lt_mul_of_pos_right (by omega) hp
      · rw [show (r + 1) / 4503599627370496 - 1 = (r / 4503599627370496 - 1) + 1 by omega, show (r + 1) % 4503599627370496 = 0 by omega, Nat.pow_succ]
        generalize 2 ^ (r / 4503599627370496 - 1) = q at *
        have := Nat.mul_lt_mul_of_pos_right (show 4503599627370496 + r % 4503599627370496 < 9007199254740992 by omega) hp
        omega
theorem U_mono {r s : Nat} (h : r < s) : U r < U s := by
  induction s with
  | zero => omega
  | succ s ih =>
    rcases Nat.lt_or_ge r s with h' | h'
    · exact Nat.lt_trans (ih h') (U_step s)
    · rw [show r = s by omega]; exact U_step s
theorem U_le {r s : Nat} (h : r ≤ s) : U r ≤ U s := by
  rcases Nat.lt_or_ge r s with h' | h'
  · exact Nat.le_of_lt (U_mono h')
  · rw [show r = s by omega]; exact Nat.le_refl _
theorem U_inj {r s : Nat} (h : U r = U s) : r = s := by
  rcases Nat.lt_trichotomy r s with h' | h' | h'
  · have := U_mono h'; omega
  · exact h'
  · have := U_mono h'; omega
def Num (x : Nat) : Prop := Fnt x ∧ (x % 9223372036854775808 = 0 → x = 0)
def ze (x : Nat) : Nat := if x % 9223372036854775808 = 0 then 0 else x
theorem fin_zero : Fnt 0 := ⟨by decide, by decide⟩
theorem ze_num {x : Nat} (h : Fnt x) : Num (ze x) := by
  unfold ze; split
  · exact ⟨fin_zero, fun _ => rfl⟩
  · exact ⟨h, fun e => absurd e ‹_›⟩
theorem V_zero : V 0 = 0 := by decide
theorem V_eq_zero {x : Nat} : V x = 0 ↔ x % 9223372036854775808 = 0 := by
  rw [← Int.natAbs_eq_zero, V_abs, U_zero]
theorem ze_val {x : Nat} : V (ze x) = V x := by
  unfold ze; split
  · rename_i h; rw [V_zero, V_eq_zero.2 h]
  · rfl
theorem V_inj {x y : Nat} (hx : Num x) (hy : Num y) (h : V x = V y) : x = y := by
  by_cases hz : V x = 0
  · rw [hx.2 (V_eq_zero.1 hz), hy.2 (V_eq_zero.1 (h ▸ hz))]
  · have h1 : U (x % 9223372036854775808) = U (y % 9223372036854775808) := by rw [← V_abs, ← V_abs, h]
    have h2 := U_inj h1
    have h3 : U (x % 9223372036854775808) ≠ 0 := by rw [← V_abs]; omega
    have hx1 := hx.1.1
    have hy1 := hy.1.1
    unfold V at h
    rw [← h2] at h
    generalize U (x % 9223372036854775808) = u at *
    by_cases a : x / 9223372036854775808 % 2 = 1 <;> by_cases b : y / 9223372036854775808 % 2 = 1 <;> simp [a, b] at h <;> omega
theorem ord_cases {a b : Nat} (ha : Fnt a) (hb : Fnt b) : (V a < V b ∧ double.order a b = some .lt) ∨ (V a = V b ∧ double.order a b = some .eq) ∨ (V b < V a ∧ double.order a b = some .gt) := by
  rw [order_fin ha hb]
  rcases Int.lt_trichotomy (V a) (V b) with h | h | h
  · exact .inl ⟨h, by rw [Int.compare_eq_lt.2 h]⟩
  · exact .inr (.inl ⟨h, by rw [Int.compare_eq_eq.2 h]⟩)
  · exact .inr (.inr ⟨h, by rw [Int.compare_eq_gt.2 h]⟩)
theorem ord_eq {a b : Nat} (ha : Fnt a) (hb : Fnt b) (h : V a = V b) : double.order a b = some .eq := by
  rw [order_fin ha hb, Int.compare_eq_eq.2 h]
theorem ord_lt {a b : Nat} (ha : Fnt a) (hb : Fnt b) (h : V a < V b) : double.order a b = some .lt := by
  rw [order_fin ha hb, Int.compare_eq_lt.2 h]
theorem ord_gt {a b : Nat} (ha : Fnt a) (hb : Fnt b) (h : V b < V a) : double.order a b = some .gt := by
  rw [order_fin ha hb, Int.compare_eq_gt.2 h]
theorem ord_ne {a b : Nat} (ha : Fnt a) (hb : Fnt b) (h : V a ≠ V b) : double.order a b = some .lt ∨ double.order a b = some .gt := by
  rcases ord_cases ha hb with h' | h' | h'
  · exact .inl h'.2
  · exact absurd h'.1 h
  · exact .inr h'.2
theorem read_non {x : Nat} (h : x < 18446744073709551616) (hn : ¬ Fnt x) : (∃ s, double.read x = .infinity s ∧ x = double.word s 9218868437227405312) ∨ ∃ s t, double.read x = .nan s t := by
  have h2 : ¬ x % 9223372036854775808 < 9218868437227405312 := fun e => hn ⟨h, e⟩
  unfold Format.read
  simp only [dbl_sw, dbl_binade, dbl_inf, dbl_least]
  rw [if_neg (by omega), if_neg h2]
  by_cases h3 : x % 9223372036854775808 = 9218868437227405312
  · rw [if_pos h3]
    exact .inl ⟨_, rfl, by rw [← h3]; exact (word_fin h).symm⟩
  · rw [if_neg h3]; exact .inr ⟨_, _, rfl⟩
theorem ord_nan {x y : Nat} (h : ∃ s t, double.read x = .nan s t) : double.order x y = none := by
  obtain ⟨s, t, h⟩ := h
  unfold Format.order; rw [h]; rfl
theorem nan_mod {x : Nat} (h : ∃ s t, double.read x = .nan s t) : ∃ s t, double.read (x % 9223372036854775808) = .nan s t := by
  obtain ⟨s, t, h⟩ := h
  unfold Format.read at h ⊢
  simp only [dbl_sw, dbl_binade, dbl_inf, dbl_least, Nat.mod_mod] at h ⊢
  split at h
  · cases h
  · split at h
    · cases h
    · split at h
      · cases h
      · rw [if_neg ‹_›, if_neg ‹_›, if_neg ‹_›]; exact ⟨_, _, rfl⟩
theorem max_fin : Fnt 9218868437227405311 := ⟨by decide, by decide⟩
theorem min_fin : Fnt 18442240474082181119 := ⟨by decide, by decide⟩
theorem V_max : V 9218868437227405311 = U 9218868437227405311 := by
  unfold V; rw [if_neg (by decide)]
theorem V_min : V 18442240474082181119 = -(U 9218868437227405311 : Int) := by
  unfold V; rw [if_pos (by decide)]
theorem V_bounds {x : Nat} (h : Fnt x) : V 18442240474082181119 ≤ V x ∧ V x ≤ V 9218868437227405311 := by
  have h1 : U (x % 9223372036854775808) ≤ U 9218868437227405311 := U_le (by have := h.2; omega)
  have h2 := V_abs x
  rw [V_max, V_min]
  generalize U 9218868437227405311 = m at *
  omega
theorem mod_fin {x : Nat} (h : Fnt x) : Fnt (x % 9223372036854775808) := ⟨by omega, by have := h.2; omega⟩
def rs (z : Nat) : Nat × Int := if z % 9223372036854775808 < 9218868437227405312 then (ze z, 0) else (0, 24)
theorem rs_fin {z : Nat} (h : Fnt z) : rs z = (ze z, 0) := if_pos h.2
theorem rs_non {z : Nat} (hz : z < 18446744073709551616) (h : ¬ Fnt z) : rs z = (0, 24) := if_neg fun e => h ⟨hz, e⟩
theorem rs_num (z : Nat) (hz : z < 18446744073709551616) : Num (rs z).1 := by
  unfold rs; split
  · exact ze_num ⟨hz, ‹_›⟩
  · exact ⟨fin_zero, fun _ => rfl⟩
end Go.Proofs.YtbacchbcanlciaaGreatDoor.Fl

namespace Go.Proofs.YtbacchbcanlciaaGreatDoor
set_option maxRecDepth 100000
open Go.RowKit Fl
set_option linter.unusedVariables false
theorem run_bits (P : Program) (b : Nat) (w : World) : (Extern.MathFloatBits.float64bits #[.float .f64 b]).run P w = .ok (.int .u64 b) w := rfl
theorem run_from (P : Program) (n : Int) (w : World) : (Extern.MathFloatBits.float64frombits #[.int .u64 n]).run P w = .ok (.float .f64 n.toNat) w := rfl
theorem ret_f {a b : Nat} (h : a = b) : Ending.returned (.float .f64 a) = .returned (.float .f64 b) := by rw [h]
theorem abs_calls (x : Nat) (w : World) (h : x < 18446744073709551616) : Calls Tryz.prog 124 #[.float .f64 x] w fun e w' => e = .returned (.float .f64 (x % 9223372036854775808)) ∧ w = w' := by
  have x1 := @run_callFunc_extern Tryz.prog 152 _ Extern.MathFloatBits.float64bits Tryz.func152 (by kernel_rfl) (by kernel_rfl) (by kernel_rfl) (by kernel_rfl)
  have x2 := @run_callFunc_extern Tryz.prog 151 _ Extern.MathFloatBits.float64frombits Tryz.func151 (by kernel_rfl) (by kernel_rfl) (by kernel_rfl) (by kernel_rfl)
  have x3 := run_bits Tryz.prog
  have x4 := run_from Tryz.prog
  have x5 : (bits .andNot .u64 (x : Int) 9223372036854775808).toNat = x % 9223372036854775808 := by
    rw [show (9223372036854775808 : Int) = ((9223372036854775808 : Nat) : Int) from rfl, u64_andNot_nat x _ h (by decide), Int.toNat_natCast]
    exact Nat.and_two_pow_sub_one_eq_mod x 63
  go_enter Tryz.func124, Tryz.ntmps124
  go_wp2
  go_ret
  exact ⟨rfl, rfl⟩
theorem isNaN_calls (x : Nat) (w : World) (o : Option Ordering) (h : FloatKind.f64.format.order x x = o) : Calls Tryz.prog 87 #[.float .f64 x] w fun e w' => e = .returned (.bool (o != some .eq)) ∧ w = w' := by
  go_enter Tryz.func87, Tryz.ntmps87
  go_wp2
  go_ret
  exact ⟨rfl, rfl⟩
theorem isInf_calls (x : Nat) (w : World) (hx : x < 18446744073709551616) (o : Option Ordering) (h : FloatKind.f64.format.order (x % 9223372036854775808) 9218868437227405311 = o) : Calls Tryz.prog 86 #[.float .f64 x, .int .i64 0] w fun e w' => e = .returned (.bool (o == some .gt)) ∧ w = w' := by
  go_enter Tryz.func86, Tryz.ntmps86
  go_wp2_with (refine (abs_calls _ _ hx).mono ?_; rintro e w' ⟨rfl, rfl⟩)
  go_ret
  exact ⟨rfl, rfl⟩
theorem unsigned_calls (x : Nat) (w : World) (hx : Fnt x) : Calls Tryz.prog 88 #[.float .f64 x] w fun e w' => e = .returned (.float .f64 (ze x)) ∧ w = w' := by
  by_cases hz : x % 9223372036854775808 = 0
  · have ho : FloatKind.f64.format.order x 0 = some .eq := ord_eq hx fin_zero (by rw [V_zero, V_eq_zero.2 hz])
    have hr : Hid (ze x = 0) := Lib.hid (if_pos hz)
    clear hz
    go_enter Tryz.func88, Tryz.ntmps88
    go_wp2
    go_ret
    exact ⟨ret_f hr.out.symm, rfl⟩
  · have ho := ord_ne hx fin_zero (by rw [V_zero]; exact fun e => hz (V_eq_zero.1 e))
    have hr : Hid (ze x = x) := Lib.hid (if_neg hz)
    clear hz
    rcases ho with ho | ho
    all_goals
      have ho' : FloatKind.f64.format.order x 0 = _ := ho
      clear ho
      go_enter Tryz.func88, Tryz.ntmps88
      go_wp2
      go_ret
      exact ⟨ret_f hr.out.symm, rfl⟩
theorem tidy_fin (x : Nat) (w : World) (hx : Fnt x) : Calls Tryz.prog 53 #[.float .f64 x] w fun e w' => e = .returned (.tuple #[.float .f64 (ze x), .bool true]) ∧ w = w' := by
  have h1 : Hid (FloatKind.f64.format.order x x = some .eq) := Lib.hid (ord_eq hx hx rfl)
  have h2 : Hid (FloatKind.f64.format.order (x % 9223372036854775808) 9218868437227405311 = some .lt ∨ FloatKind.f64.format.order (x % 9223372036854775808) 9218868437227405311 = some .eq) := Lib.hid (by
    rcases ord_cases (mod_fin hx) max_fin with h | h | h
    · exact .inl h.2
    · exact .inr h.2
    · have := (V_bounds (mod_fin hx)).2; omega)
  rcases h2.out with h3 | h3
  all_goals
    have h4 := Lib.hid h3
    clear h3
    go_enter Tryz.func53, Tryz.ntmps53
    go_wp2_with fail
    refine (isInf_calls _ _ hx.1 _ h4.out).mono ?_
    rintro e w' ⟨rfl, rfl⟩
    go_wp2_with fail
    refine (isNaN_calls _ _ _ h1.out).mono ?_
    rintro e w' ⟨rfl, rfl⟩
    go_wp2_with fail
    refine (unsigned_calls _ _ hx).mono ?_
    rintro e w' ⟨rfl, rfl⟩
    go_wp2
    go_ret2
    exact ⟨rfl, rfl⟩
theorem tidy_non (x : Nat) (w : World) (hx : x < 18446744073709551616) (hn : ¬ Fnt x) : Calls Tryz.prog 53 #[.float .f64 x] w fun e w' => e = .returned (.tuple #[.float .f64 0, .bool false]) ∧ w = w' := by
  rcases read_non hx hn with ⟨s, _, rfl⟩ | hnan
  · have h2 : FloatKind.f64.format.order (Ieee.double.word s 9218868437227405312 % 9223372036854775808) 9218868437227405311 = some .gt := by cases s <;> decide
    have H2 := Lib.hid h2
    clear h2
    go_enter Tryz.func53, Tryz.ntmps53
    go_wp2_with fail
    refine (isInf_calls _ _ hx _ H2.out).mono ?_
    rintro e w' ⟨rfl, rfl⟩
    go_wp2
    go_ret2
    exact ⟨rfl, rfl⟩
  · have h1 : Hid (FloatKind.f64.format.order x x = none) := Lib.hid (ord_nan hnan)
    have h2 : Hid (∃ o, FloatKind.f64.format.order (x % 9223372036854775808) 9218868437227405311 = o ∧ (o == some .gt) = false) := Lib.hid ⟨_, ord_nan (nan_mod hnan), rfl⟩
    obtain ⟨o, ho, hg⟩ := h2.out
    have H2 := Lib.hid ho
    clear ho
    go_enter Tryz.func53, Tryz.ntmps53
    go_wp2_with fail
    refine (isInf_calls _ _ hx _ H2.out).mono ?_
    rintro e w' ⟨rfl, rfl⟩
    go_wp2_with fail
    refine (isNaN_calls _ _ _ h1.out).mono ?_
    rintro e w' ⟨rfl, rfl⟩
    go_wp2
    go_ret2
    exact ⟨rfl, rfl⟩
theorem ret_fb {a b : Nat} {c : Bool} (h : a = b) : Ending.returned (.tuple #[.float .f64 a, .bool c]) = .returned (.tuple #[.float .f64 b, .bool c]) := by rw [h]
theorem rfinite_fin (x : Nat) (w : World) (hx : Fnt x) : Calls Tryz.prog 61 #[.float .f64 x] w fun e w' => e = .returned (.bool true) ∧ w = w' := by
  have h1 : FloatKind.f64.format.order x 18442240474082181119 = some .gt ∨ FloatKind.f64.format.order x 18442240474082181119 = some .eq := by
    rcases ord_cases hx min_fin with h | h | h
    · have := (V_bounds hx).1; omega
    · exact .inr h.2
    · exact .inl h.2
  have h2 : FloatKind.f64.format.order x 9218868437227405311 = some .lt ∨ FloatKind.f64.format.order x 9218868437227405311 = some .eq := by
    rcases ord_cases hx max_fin with h | h | h
    · exact .inl h.2
    · exact .inr h.2
    · have := (V_bounds hx).2; omega
  clear hx
  rcases h1 with h1 | h1 <;> rcases h2 with h2 | h2
  all_goals
    go_enter Tryz.func61, Tryz.ntmps61
    go_wp2
    go_ret
    exact ⟨rfl, rfl⟩
theorem rfinite_non (x : Nat) (w : World) (hx : x < 18446744073709551616) (hn : ¬ Fnt x) : Calls Tryz.prog 61 #[.float .f64 x] w fun e w' => e = .returned (.bool false) ∧ w = w' := by
  have key : (FloatKind.f64.format.order x 18442240474082181119 = none ∧ True) ∨ (FloatKind.f64.format.order x 18442240474082181119 = some .lt) ∨ (FloatKind.f64.format.order x 18442240474082181119 = some .gt ∧ FloatKind.f64.format.order x 9218868437227405311 = some .gt) := by
    rcases read_non hx hn with ⟨s, _, rfl⟩ | hnan
    · cases s
      · exact .inr (.inr ⟨by decide, by decide⟩)
      · exact .inr (.inl (by decide))
    · exact .inl ⟨ord_nan hnan, trivial⟩
  clear hx hn
  rcases key with ⟨h1, _⟩ | h1 | ⟨h1, h2⟩
  all_goals
    go_enter Tryz.func61, Tryz.ntmps61
    go_wp2
    go_ret
    exact ⟨rfl, rfl⟩
theorem rtidy_fin (x : Nat) (w : World) (hx : Fnt x) : Calls Tryz.prog 26 #[.float .f64 x] w fun e w' => e = .returned (.tuple #[.float .f64 (ze x), .bool true]) ∧ w = w' := by
  have HX := Lib.hid hx
  by_cases hz : x % 9223372036854775808 = 0
  · have ho : FloatKind.f64.format.order x 0 = some .eq := ord_eq hx fin_zero (by rw [V_zero, V_eq_zero.2 hz])
    have hr : Hid (ze x = 0) := Lib.hid (if_pos hz)
    clear hz hx
    go_enter Tryz.func26, Tryz.ntmps26
    go_wp2_with (refine (rfinite_fin _ _ HX.out).mono ?_; rintro e w' ⟨rfl, rfl⟩)
    go_ret2
    exact ⟨ret_fb hr.out.symm, rfl⟩
  · have ho := ord_ne hx fin_zero (by rw [V_zero]; exact fun e => hz (V_eq_zero.1 e))
    have hr : Hid (ze x = x) := Lib.hid (if_neg hz)
    clear hz hx
    rcases ho with ho | ho
    all_goals
      have ho' : FloatKind.f64.format.order x 0 = _ := ho
      clear ho
      go_enter Tryz.func26, Tryz.ntmps26
      go_wp2_with (refine (rfinite_fin _ _ HX.out).mono ?_; rintro e w' ⟨rfl, rfl⟩)
      go_ret2
      exact ⟨ret_fb hr.out.symm, rfl⟩
theorem rtidy_non (x : Nat) (w : World) (hx : x < 18446744073709551616) (hn : ¬ Fnt x) : Calls Tryz.prog 26 #[.float .f64 x] w fun e w' => e = .returned (.tuple #[.float .f64 0, .bool false]) ∧ w = w' := by
  have HX := Lib.hid hx
  have HN := Lib.hid hn
  clear hx hn
  go_enter Tryz.func26, Tryz.ntmps26
  go_wp2_with (refine (rfinite_non _ _ HX.out HN.out).mono ?_; rintro e w' ⟨rfl, rfl⟩)
  go_ret2
  exact ⟨rfl, rfl⟩
theorem bits_same (x : Nat) (w : World) (hx : Num x) : Calls Tryz.prog 17 #[.float .f64 x, .float .f64 x] w fun e w' => e = .returned (.bool true) ∧ w = w' := by
  have h1 : FloatKind.f64.format.order x x = some .eq := ord_eq hx.1 hx.1 rfl
  by_cases hz : x % 9223372036854775808 = 0
  · have hx0 := hx.2 hz
    subst hx0
    clear hz hx h1
    have h2 : ∀ t w, (binOp .quo t (.float .f64 4607182418800017408) (.float .f64 0)).run Tryz.prog w = .ok (.float .f64 9218868437227405312) w := fun t w => run_float_arith w .quo t .f64 _ _ _ (by decide)
    have h3 : FloatKind.f64.format.order 9218868437227405312 9218868437227405312 = some .eq := by decide
    have h1 : FloatKind.f64.format.order 0 0 = some .eq := by decide
    go_enter Tryz.func17, Tryz.ntmps17
    go_wp2
    go_ret
    exact ⟨rfl, rfl⟩
  · have ho := ord_ne hx.1 fin_zero (by rw [V_zero]; exact fun e => hz (V_eq_zero.1 e))
    clear hz hx
    rcases ho with ho | ho
    all_goals
      have ho' : FloatKind.f64.format.order x 0 = _ := ho
      clear ho
      go_enter Tryz.func17, Tryz.ntmps17
      go_wp2
      go_ret
      exact ⟨rfl, rfl⟩
theorem ret_rs {z : Nat} {a : Nat} {i : Int} (h : rs z = (a, i)) : Ending.returned (.tuple #[.float .f64 a, .int .i64 i]) = .returned (.tuple #[.float .f64 (rs z).1, .int .i64 (rs z).2]) := by rw [h]
theorem result_calls (z : Nat) (w : World) (hz : z < 18446744073709551616) : Calls Tryz.prog 211 #[.float .f64 z] w fun e w' => e = .returned (.tuple #[.float .f64 (rs z).1, .int .i64 (rs z).2]) ∧ w = w' := by
  have HZ := Lib.hid hz
  clear hz
  by_cases hf : Fnt z
  · have hr : Hid (rs z = (ze z, 0)) := Lib.hid (rs_fin hf)
    have HF := Lib.hid hf
    clear hf
    go_enter Tryz.func211, Tryz.ntmps211
    go_wp2_with (refine (tidy_fin _ _ HF.out).mono ?_; rintro e w' ⟨rfl, rfl⟩)
    go_ret2
    exact ⟨ret_rs hr.out, rfl⟩
  · have hr : Hid (rs z = (0, 24)) := Lib.hid (rs_non HZ.out hf)
    have HF := Lib.hid hf
    clear hf
    go_enter Tryz.func211, Tryz.ntmps211
    go_wp2_with (refine (tidy_non _ _ HZ.out HF.out).mono ?_; rintro e w' ⟨rfl, rfl⟩)
    go_ret2
    exact ⟨ret_rs hr.out, rfl⟩
theorem done_calls (z : Nat) (w : World) (hz : z < 18446744073709551616) : Calls Tryz.prog 180 #[.float .f64 z] w fun e w' => e = .returned (.tuple #[.float .f64 (rs z).1, .int .i64 (rs z).2]) ∧ w = w' := by
  have HZ := Lib.hid hz
  clear hz
  by_cases hf : Fnt z
  · have hr : Hid (rs z = (ze z, 0)) := Lib.hid (rs_fin hf)
    have HF := Lib.hid hf
    clear hf
    go_enter Tryz.func180, Tryz.ntmps180
    go_wp2_with (refine (rtidy_fin _ _ HF.out).mono ?_; rintro e w' ⟨rfl, rfl⟩)
    go_ret2
    exact ⟨ret_rs hr.out, rfl⟩
  · have hr : Hid (rs z = (0, 24)) := Lib.hid (rs_non HZ.out hf)
    have HF := Lib.hid hf
    clear hf
    go_enter Tryz.func180, Tryz.ntmps180
    go_wp2_with (refine (rtidy_non _ _ HZ.out HF.out).mono ?_; rintro e w' ⟨rfl, rfl⟩)
    go_ret2
    exact ⟨ret_rs hr.out, rfl⟩
end Go.Proofs.YtbacchbcanlciaaGreatDoor

namespace Go.Proofs.YtbacchbcanlciaaGreatDoor.Fl
set_option maxRecDepth 100000
open Ieee
theorem V_pos (r : Nat) (h : r < 9223372036854775808) : V r = (U r : Int) := by
  unfold V
  rw [if_neg (by simp; omega), Nat.mod_eq_of_lt h]
theorem V_neg (r : Nat) (h : r < 9223372036854775808) : V (9223372036854775808 + r) = -(U r : Int) := by
  unfold V
  rw [if_pos (by simp; omega), show (9223372036854775808 + r) % 9223372036854775808 = r by omega]
theorem U_top : U 4845873199050653696 = 9007199254740992 * pw 1074 := by
  have h := U_eq 1075 0 (by decide)
  rw [show (1075 + 1) * 4503599627370496 + 0 = 4845873199050653696 from rfl, show pw 1075 = pw 1 * pw 1074 from pw_add 1 1074, show pw 1 = 2 from rfl] at h
  rw [h]
  generalize pw 1074 = t
  omega
theorem V_top : V 4845873199050653696 = 9007199254740992 * (pw 1074 : Int) := by
  rw [V_pos _ (by decide), U_top, Int.natCast_mul]; rfl
theorem V_bot : V 14069245235905429504 = -(9007199254740992 * (pw 1074 : Int)) := by
  rw [show 14069245235905429504 = 9223372036854775808 + 4845873199050653696 from rfl, V_neg _ (by decide), U_top, Int.natCast_mul]; rfl
theorem top_fin : Fnt 4845873199050653696 := ⟨by decide, by decide⟩
theorem bot_fin : Fnt 14069245235905429504 := ⟨by decide, by decide⟩
theorem one_fin : Fnt 4607182418800017408 := ⟨by decide, by decide⟩
theorem U_one : U 4607182418800017408 = pw 1074 := by
  have h := U_eq 1022 0 (by decide)
  rw [show (1022 + 1) * 4503599627370496 + 0 = 4607182418800017408 from rfl] at h
  rw [h, show pw 1074 = pw 52 * pw 1022 from pw_add 52 1022, show pw 52 = 4503599627370496 from rfl]
theorem V_one : V 4607182418800017408 = pw 1074 := by rw [V_pos _ (by decide), U_one]
theorem add_zero {x : Nat} (hx : Fnt x) : double.add x 0 = some (ze x) := by
  rw [add_fin hx fin_zero, V_zero, Int.add_zero]
  congr 1
  have h1 := nearest_fin hx
  unfold ze
  by_cases h0 : x % 9223372036854775808 = 0
  · rw [if_pos h0, if_pos (V_eq_zero.2 h0), V_eq_zero.2 h0, show (sg 0) = false from rfl, Bool.and_false]
    simp [Format.nearest, Format.word]
  · have h2 : V x ≠ 0 := fun e => h0 (V_eq_zero.1 e)
    rw [if_neg h0, if_neg h2, V_abs]
    have h3 : decide (V x < 0) = sg x := by
      rw [V_sg] at h2 ⊢
      cases sg x <;> simp at h2 ⊢ <;> omega
    rw [h3]; exact h1
def fl (x : Nat) : Nat := double.nearest (sg x) ((V x).natAbs / pw 1074 + (sg x && (V x).natAbs % pw 1074 != 0).toNat) 0
def cl (x : Nat) : Nat := double.nearest (sg x) ((V x).natAbs / pw 1074 + (!sg x && (V x).natAbs % pw 1074 != 0).toNat) 0
theorem div_some {a b : Nat} (ha : Fnt a) (hb : Fnt b) (h : V b ≠ 0) : ∃ z, double.div a b = some z := by
  obtain ⟨m, k, h1, _, h2⟩ := read_fin' ha
  obtain ⟨n, j, g1, _, g2⟩ := read_fin' hb
  have hn : n ≠ 0 := by
    intro e; subst e; rw [Nat.zero_mul] at g2; omega
  unfold Format.div
  rw [h1, g1]
  simp only [Datum.quotient, if_neg hn]
  exact ⟨_, rfl⟩
end Go.Proofs.YtbacchbcanlciaaGreatDoor.Fl

namespace Go.Proofs.YtbacchbcanlciaaGreatDoor
set_option maxRecDepth 100000
open Go.RowKit Fl
set_option linter.unusedVariables false
def tr (x : Nat) : Nat := Ieee.double.nearest (sg x) ((V x).natAbs / pw 1074) 0
theorem run_integral (P : Program) (name : String) (way : Ieee.Toward) (hw : way ≠ .even) (x : Nat) (hx : Fnt x) (w : World) : (Extern.MathFloor.toIntegral name way #[.float .f64 x]).run P w = .ok (.float .f64 (Ieee.double.nearest (sg x) (way.cut (sg x) (V x).natAbs 1074) 0)) w := by
  obtain ⟨m, k, h1, _, _⟩ := read_fin' hx
  have h2 := integral_fin hx way hw
  have h3 : FloatKind.f64.decode x = Ieee.Datum.number (sg x) m (-1074 + k) := h1
  rw [h1] at h2
  have h4 : ∀ d, FloatKind.f64.decode x = d → (∃ s m p, d = Ieee.Datum.number s m p) → Extern.MathFloor.toIntegral name way #[.float .f64 x] = pure (.float .f64 (FloatKind.f64.encode (d.integral way))) := by
    intro d hd ⟨s, m, p, e⟩
    subst e
    show (match FloatKind.f64.decode x with
      | .nan s t => _
      | d => pure (.float .f64 (FloatKind.f64.encode (d.integral way))) : Sem Value) = _
    rw [hd]
  rw [h4 _ h3 ⟨_, _, _, rfl⟩, h2]
  rfl
theorem trunc_calls (x : Nat) (w : World) (hx : Fnt x) : Calls Tryz.prog 140 #[.float .f64 x] w fun e w' => e = .returned (.float .f64 (tr x)) ∧ w = w' := by
  have x1 := @run_callFunc_extern Tryz.prog 182 _ (Extern.MathFloor.toIntegral "math.archTrunc" .zero) Tryz.func182 (by kernel_rfl) (by kernel_rfl) (by kernel_rfl) (by kernel_rfl)
  have x2 : ∀ w, (Extern.MathFloor.toIntegral "math.archTrunc" .zero #[.float .f64 x]).run Tryz.prog w = .ok (.float .f64 (tr x)) w := fun w => by
    rw [run_integral _ _ _ (by decide) x hx, cut_zero', tr]
  go_enter Tryz.func140, Tryz.ntmps140
  go_wp2
  go_ret
  exact ⟨rfl, rfl⟩
def Wh (x : Nat) (n : Int) : Prop := Fnt x ∧ n.natAbs ≤ 9007199254740992 ∧ V x = n * pw 1074
theorem bounds_cases (x : Nat) (hx : x < 18446744073709551616) :
    (FloatKind.f64.format.order x 14069245235905429504 = none ∧ ¬ Fnt x) ∨ (FloatKind.f64.format.order x 14069245235905429504 = some .lt ∧ ∀ n, ¬ Wh x n)
    ∨ ((FloatKind.f64.format.order x 14069245235905429504 = some .gt ∨ FloatKind.f64.format.order x 14069245235905429504 = some .eq) ∧ FloatKind.f64.format.order x 4845873199050653696 = some .gt ∧ ∀ n, ¬ Wh x n)
    ∨ ((FloatKind.f64.format.order x 14069245235905429504 = some .gt ∨ FloatKind.f64.format.order x 14069245235905429504 = some .eq) ∧ (FloatKind.f64.format.order x 4845873199050653696 = some .lt ∨ FloatKind.f64.format.order x 4845873199050653696 = some .eq) ∧ Fnt x ∧ (V x).natAbs ≤ 9007199254740992 * pw 1074) := by
  have hp : (0 : Int) < pw 1074 := by exact_mod_cast pw_pos 1074
  by_cases hf : Fnt x
  · have nw : ∀ n, Wh x n → -(9007199254740992 * (pw 1074 : Int)) ≤ V x ∧ V x ≤ 9007199254740992 * (pw 1074 : Int) := by
      rintro n ⟨_, h1, h2⟩
      rw [h2]
      exact ⟨by rw [← Int.neg_mul]; exact Int.mul_le_mul_of_nonneg_right (by omega) (Int.le_of_lt hp), Int.mul_le_mul_of_nonneg_right (by omega) (Int.le_of_lt hp)⟩
    rcases ord_cases hf bot_fin with h | h | h
    · exact .inr (.inl ⟨h.2, fun n hn => by have := (nw n hn).1; have := h.1; rw [V_bot] at this; omega⟩)
    all_goals
      rcases ord_cases hf top_fin with g | g | g
      · refine .inr (.inr (.inr ⟨?_, .inl g.2, hf, ?_⟩))
        · first | exact .inl h.2 | exact .inr h.2
        · have a := h.1; have b := g.1; rw [V_bot] at a; rw [V_top] at b; generalize pw 1074 = t at *; omega
      · refine .inr (.inr (.inr ⟨?_, .inr g.2, hf, ?_⟩))
        · first | exact .inl h.2 | exact .inr h.2
        · have a := h.1; have b := g.1; rw [V_bot] at a; rw [V_top] at b; generalize pw 1074 = t at *; omega
      · refine .inr (.inr (.inl ⟨?_, g.2, fun n hn => by have := (nw n hn).2; have := g.1; rw [V_top] at this; omega⟩))
        first | exact .inl h.2 | exact .inr h.2
  · rcases read_non hx hf with ⟨s, _, rfl⟩ | hnan
    · cases s
      · exact .inr (.inr (.inl ⟨.inl (by decide), by decide, fun n hn => hf hn.1⟩))
      · exact .inr (.inl ⟨by decide, fun n hn => hf hn.1⟩)
    · exact .inl ⟨ord_nan hnan, hf⟩
theorem wh_tr (x : Nat) (hx : Fnt x) (hb : (V x).natAbs ≤ 9007199254740992 * pw 1074) : Fnt (tr x) ∧ (V (tr x) = V x ↔ ∃ n, Wh x n) := by
  have hq : (V x).natAbs / pw 1074 ≤ 9007199254740992 := by
    exact Nat.div_le_of_le_mul (by rw [Nat.mul_comm]; exact hb)
  obtain ⟨h1, h2⟩ := nearest_whole (sg x) _ hq
  refine ⟨h1, ?_⟩
  rw [show V (tr x) = _ from h2]
  have hs := V_sg x
  constructor
  · intro h
    clear h2 h1 hs hb
    generalize (V x).natAbs / pw 1074 = q at *
    refine ⟨if sg x then -(q : Int) else q, hx, by split <;> omega, ?_⟩
    rw [← h]
    split <;> simp [Int.neg_mul]
  · rintro ⟨n, _, h3, h4⟩
    have h5 : (V x).natAbs = n.natAbs * pw 1074 := by rw [h4, Int.natAbs_mul]; simp
    rw [h5, Nat.mul_div_cancel _ (pw_pos 1074), ← h5]
    exact hs.symm
theorem wh_int (x : Nat) (n : Int) (h : Wh x n) : floatToIntVal .f64 x .i64 = some n := by
  have hd : FloatKind.f64.decode x = Ieee.double.read x := rfl
  have hm : IntKind.i64.min = -9223372036854775808 ∧ IntKind.i64.max = 9223372036854775807 := by decide
  have hp : (pw 1074 : Int) ≠ 0 := by have := pw_pos 1074; omega
  unfold floatToIntVal
  rw [hd, toInt_fin h.1, h.2.2, Int.mul_tdiv_cancel _ hp]
  have := h.2.1
  simp only
  rw [if_pos ⟨by omega, by omega⟩]
theorem whole_yes (x : Nat) (n : Int) (w : World) (h : Wh x n) : Calls Tryz.prog 111 #[.float .f64 x] w fun e w' => e = .returned (.tuple #[.int .i64 n, .bool true]) ∧ w = w' := by
  have hi := wh_int x n h
  have hc : ∀ w, (convert 42 2 (.float .f64 x)).run Tryz.prog w = .ok (.int .i64 n) w := fun w => run_convert_float_int w 42 2 .f64 .i64 x n (by kernel_rfl) (by kernel_rfl) hi
  rcases bounds_cases x h.1.1 with ⟨_, hf⟩ | ⟨_, hf⟩ | ⟨_, _, hf⟩ | ⟨h1, h2, hf, hb⟩
  · exact absurd h.1 hf
  · exact absurd h (hf n)
  · exact absurd h (hf n)
  have ht := wh_tr x hf hb
  have h3 : FloatKind.f64.format.order x (tr x) = some .eq := ord_eq hf ht.1 (ht.2.2 ⟨n, h⟩).symm
  have HF := Lib.hid hf
  clear hf hb ht hi h
  rcases h1 with h1 | h1 <;> rcases h2 with h2 | h2
  all_goals
    go_enter Tryz.func111, Tryz.ntmps111
    go_wp2_with (refine (trunc_calls _ _ HF.out).mono ?_; rintro e w' ⟨rfl, rfl⟩)
    go_ret2
    exact ⟨rfl, rfl⟩
theorem whole_no (x : Nat) (w : World) (hx : x < 18446744073709551616) (h : ∀ n, ¬ Wh x n) : Calls Tryz.prog 111 #[.float .f64 x] w fun e w' => e = .returned (.tuple #[.int .i64 0, .bool false]) ∧ w = w' := by
  rcases bounds_cases x hx with ⟨h1, hf⟩ | ⟨h1, hf⟩ | ⟨h1, h2, hf⟩ | ⟨h1, h2, hf, hb⟩
  · clear hf h
    go_enter Tryz.func111, Tryz.ntmps111
    go_wp2
    go_ret2
    exact ⟨rfl, rfl⟩
  · clear hf h
    go_enter Tryz.func111, Tryz.ntmps111
    go_wp2
    go_ret2
    exact ⟨rfl, rfl⟩
  · clear hf h
    rcases h1 with h1 | h1
    all_goals
      go_enter Tryz.func111, Tryz.ntmps111
      go_wp2
      go_ret2
      exact ⟨rfl, rfl⟩
  · have ht := wh_tr x hf hb
    have h3 : FloatKind.f64.format.order x (tr x) = some .lt ∨ FloatKind.f64.format.order x (tr x) = some .gt := ord_ne hf ht.1 (fun e => by obtain ⟨n, hn⟩ := ht.2.1 e.symm; exact h n hn)
    have HF := Lib.hid hf
    clear hf hb ht h
    rcases h1 with h1 | h1 <;> rcases h2 with h2 | h2 <;> rcases h3 with h3 | h3
    all_goals
      go_enter Tryz.func111, Tryz.ntmps111
      go_wp2_with (refine (trunc_calls _ _ HF.out).mono ?_; rintro e w' ⟨rfl, rfl⟩)
      go_ret2
      exact ⟨rfl, rfl⟩
theorem int_of (x : Nat) (hx : Fnt x) (hb : (V x).natAbs ≤ 9007199254740992 * pw 1074) : ∃ n : Int, floatToIntVal .f64 x .i64 = some n ∧ n.natAbs ≤ 9007199254740992 ∧ n = (V x).tdiv (pw 1074) := by
  have hd : FloatKind.f64.decode x = Ieee.double.read x := rfl
  have hm : IntKind.i64.min = -9223372036854775808 ∧ IntKind.i64.max = 9223372036854775807 := by decide
  have hq : ((V x).tdiv (pw 1074)).natAbs ≤ 9007199254740992 := by
    rw [Int.natAbs_tdiv]
    exact Nat.div_le_of_le_mul (by rw [Nat.mul_comm, Int.natAbs_natCast]; exact hb)
  refine ⟨(V x).tdiv (pw 1074), ?_, hq, rfl⟩
  unfold floatToIntVal
  rw [hd, toInt_fin hx]
  simp only
  rw [if_pos ⟨by omega, by omega⟩]
theorem int_back (x : Nat) (hx : Fnt x) (n : Int) (h1 : n.natAbs ≤ 9007199254740992) (h2 : n = (V x).tdiv (pw 1074)) : V (floatOfInt .f64 n) = V x ↔ ∃ m, Wh x m := by
  have hp : (pw 1074 : Int) ≠ 0 := by have := pw_pos 1074; omega
  rw [ofInt_val n h1]
  constructor
  · intro h; exact ⟨n, hx, h1, h.symm⟩
  · rintro ⟨m, h3⟩
    rw [h2, h3.2.2, Int.mul_tdiv_cancel _ hp]
theorem rwhole_calls (x : Nat) (w : World) (hx : x < 18446744073709551616) (b : Bool) (hb : b = true ↔ ∃ n, Wh x n) : Calls Tryz.prog 137 #[.float .f64 x] w fun e w' => e = .returned (.bool b) ∧ w = w' := by
  rcases bounds_cases x hx with ⟨h1, hf⟩ | ⟨h1, hf⟩ | ⟨h1, h2, hf⟩ | ⟨h1, h2, hf, hbd⟩
  · have e : b = false := Bool.eq_false_iff.2 fun e => by obtain ⟨n, hn⟩ := hb.1 e; exact hf hn.1
    subst e
    clear hf hb
    go_enter Tryz.func137, Tryz.ntmps137
    go_wp2
    go_ret
    exact ⟨rfl, rfl⟩
  · have e : b = false := Bool.eq_false_iff.2 fun e => by obtain ⟨n, hn⟩ := hb.1 e; exact hf n hn
    subst e
    clear hf hb
    go_enter Tryz.func137, Tryz.ntmps137
    go_wp2
    go_ret
    exact ⟨rfl, rfl⟩
  · have e : b = false := Bool.eq_false_iff.2 fun e => by obtain ⟨n, hn⟩ := hb.1 e; exact hf n hn
    subst e
    clear hf hb
    rcases h1 with h1 | h1
    all_goals
      go_enter Tryz.func137, Tryz.ntmps137
      go_wp2
      go_ret
      exact ⟨rfl, rfl⟩
  · obtain ⟨n, hn1, hn2, hn3⟩ := int_of x hf hbd
    have hback := int_back x hf n hn2 hn3
    have hc : ∀ w, (convert 42 2 (.float .f64 x)).run Tryz.prog w = .ok (.int .i64 n) w := fun w => run_convert_float_int w 42 2 .f64 .i64 x n (by kernel_rfl) (by kernel_rfl) hn1
    have hc2 : ∀ w, (convert 2 42 (.int .i64 n)).run Tryz.prog w = .ok (.float .f64 (floatOfInt .f64 n)) w := fun w => run_convert_int_float w 2 42 .i64 .f64 n (by kernel_rfl) (by kernel_rfl)
    have hof := ofInt_fin n (by omega)
    by_cases hm : ∃ n, Wh x n
    · have e : b = true := hb.2 hm
      subst e
      have h3 : FloatKind.f64.format.order (floatOfInt .f64 n) x = some .eq := ord_eq hof hf (hback.2 hm)
      clear hb hm hback hof hf hbd hn1 hn2 hn3
      rcases h1 with h1 | h1 <;> rcases h2 with h2 | h2
      all_goals
        go_enter Tryz.func137, Tryz.ntmps137
        go_wp2
        go_ret
        exact ⟨rfl, rfl⟩
    · have e : b = false := Bool.eq_false_iff.2 fun e => hm (hb.1 e)
      subst e
      have h3 : FloatKind.f64.format.order (floatOfInt .f64 n) x = some .lt ∨ FloatKind.f64.format.order (floatOfInt .f64 n) x = some .gt := ord_ne hof hf fun e => hm (hback.1 e)
      clear hb hm hback hof hf hbd hn1 hn2 hn3
      rcases h1 with h1 | h1 <;> rcases h2 with h2 | h2 <;> rcases h3 with h3 | h3
      all_goals
        go_enter Tryz.func137, Tryz.ntmps137
        go_wp2
        go_ret
        exact ⟨rfl, rfl⟩

def sm (n : Int) : Bool := decide (-9007199254740992 ≤ n ∧ n ≤ 9007199254740992)
theorem sm_yes {n : Int} (h1 : -9007199254740992 ≤ n) (h2 : n ≤ 9007199254740992) : sm n = true := decide_eq_true ⟨h1, h2⟩
theorem sm_no {n : Int} (h : n < -9007199254740992 ∨ 9007199254740992 < n) : sm n = false := decide_eq_false (by omega)
theorem sm_of {n : Int} (h : sm n = true) : -9007199254740992 ≤ n ∧ n ≤ 9007199254740992 := of_decide_eq_true h
theorem ret_b {a b : Bool} (h : a = b) : Ending.returned (.bool a) = .returned (.bool b) := by rw [h]
theorem fits_calls (n : Int) (w : World) : Calls Tryz.prog 207 #[.int .i64 n] w fun e w' => e = .returned (.bool (sm n)) ∧ w = w' := by
  rcases Int.lt_or_le n (-9007199254740992) with h | h
  · have hs := Lib.hid (sm_no (Or.inl h))
    go_enter Tryz.func207, Tryz.ntmps207
    go_wp2
    all_goals (go_ret; first | exact ⟨ret_b hs.out.symm, rfl⟩ | exact ⟨ret_b (by rw [hs.out]; exact decide_eq_false (by omega)), rfl⟩)
  · rcases Int.lt_or_le 9007199254740992 n with h2 | h2
    · have hs := Lib.hid (sm_no (Or.inr h2))
      go_enter Tryz.func207, Tryz.ntmps207
      go_wp2
      all_goals (go_ret; first | exact ⟨ret_b hs.out.symm, rfl⟩ | exact ⟨ret_b (by rw [hs.out]; exact decide_eq_false (by omega)), rfl⟩)
    · have hs := Lib.hid (sm_yes h h2)
      go_enter Tryz.func207, Tryz.ntmps207
      go_wp2
      all_goals (go_ret; first | exact ⟨ret_b hs.out.symm, rfl⟩ | exact ⟨ret_b (by rw [hs.out]; exact decide_eq_false (by omega)), rfl⟩)
theorem small_calls (n : Int) (w : World) : Calls Tryz.prog 15 #[.int .i64 n] w fun e w' => e = .returned (.bool (sm n)) ∧ w = w' := by
  rcases Int.lt_or_le n (-9007199254740992) with h | h
  · have hs := Lib.hid (sm_no (Or.inl h))
    go_enter Tryz.func15, Tryz.ntmps15
    go_wp2
    all_goals (go_ret; first | exact ⟨ret_b hs.out.symm, rfl⟩ | exact ⟨ret_b (by rw [hs.out]; exact decide_eq_false (by omega)), rfl⟩)
  · rcases Int.lt_or_le 9007199254740992 n with h2 | h2
    · have hs := Lib.hid (sm_no (Or.inr h2))
      go_enter Tryz.func15, Tryz.ntmps15
      go_wp2
      all_goals (go_ret; first | exact ⟨ret_b hs.out.symm, rfl⟩ | exact ⟨ret_b (by rw [hs.out]; exact decide_eq_false (by omega)), rfl⟩)
    · have hs := Lib.hid (sm_yes h h2)
      go_enter Tryz.func15, Tryz.ntmps15
      go_wp2
      all_goals (go_ret; first | exact ⟨ret_b hs.out.symm, rfl⟩ | exact ⟨ret_b (by rw [hs.out]; exact decide_eq_false (by omega)), rfl⟩)
theorem fitting_yes (n : Int) (w : World) (h : sm n = true) : Calls Tryz.prog 208 #[.int .i64 n] w fun e w' => e = .returned (.tuple #[.int .i64 n, .bool true]) ∧ w = w' := by
  go_enter Tryz.func208, Tryz.ntmps208
  go_wp2_with (refine (fits_calls _ _).mono ?_; rintro e w' ⟨rfl, rfl⟩)
  go_ret2
  exact ⟨rfl, rfl⟩
theorem fitting_no (n : Int) (w : World) (h : sm n = false) : Calls Tryz.prog 208 #[.int .i64 n] w fun e w' => e = .returned (.tuple #[.int .i64 0, .bool false]) ∧ w = w' := by
  go_enter Tryz.func208, Tryz.ntmps208
  go_wp2_with (refine (fits_calls _ _).mono ?_; rintro e w' ⟨rfl, rfl⟩)
  go_ret2
  exact ⟨rfl, rfl⟩
theorem ret_i {k : IntKind} {a b : Int} (h : a = b) : Ending.returned (.int k a) = .returned (.int k b) := by rw [h]
theorem size_calls (n : Int) (w : World) (h : -9223372036854775808 < n) (h2 : n ≤ 9223372036854775807) : Calls Tryz.prog 209 #[.int .i64 n] w fun e w' => e = .returned (.int .i64 n.natAbs) ∧ w = w' := by
  rcases Int.lt_or_le n 0 with h3 | h3
  · obtain ⟨m, rfl⟩ : ∃ m : Nat, n = -(m : Int) := ⟨n.natAbs, by omega⟩
    have hs := Lib.hid (show (m : Int) = ((-(m : Int)).natAbs : Int) by omega)
    go_enter Tryz.func209, Tryz.ntmps209
    go_wp2
    all_goals (go_ret; exact ⟨ret_i hs.out, rfl⟩)
  · have hs := Lib.hid (show n = (n.natAbs : Int) by omega)
    go_enter Tryz.func209, Tryz.ntmps209
    go_wp2
    all_goals (go_ret; exact ⟨ret_i hs.out, rfl⟩)
theorem addint_yes (a b : Int) (w : World) (ha : sm a = true) (hb : sm b = true) (hs : sm (a + b) = true) : Calls Tryz.prog 176 #[.int .i64 a, .int .i64 b] w fun e w' => e = .returned (.tuple #[.int .i64 (a + b), .bool true]) ∧ w = w' := by
  obtain ⟨a1, a2⟩ := sm_of ha
  obtain ⟨b1, b2⟩ := sm_of hb
  have HS := Lib.hid hs
  clear hs
  go_enter Tryz.func176, Tryz.ntmps176
  go_wp2_with (first | (refine (fits_calls _ _).mono ?_; rintro e w' ⟨rfl, rfl⟩) | (refine (fitting_yes _ _ HS.out).mono ?_; rintro e w' ⟨rfl, rfl⟩))
  go_ret2
  exact ⟨rfl, rfl⟩
theorem addint_no3 (a b : Int) (w : World) (ha : sm a = true) (hb : sm b = true) (hs : sm (a + b) = false) : Calls Tryz.prog 176 #[.int .i64 a, .int .i64 b] w fun e w' => e = .returned (.tuple #[.int .i64 0, .bool false]) ∧ w = w' := by
  obtain ⟨a1, a2⟩ := sm_of ha
  obtain ⟨b1, b2⟩ := sm_of hb
  have HS := Lib.hid hs
  clear hs
  go_enter Tryz.func176, Tryz.ntmps176
  go_wp2_with (first | (refine (fits_calls _ _).mono ?_; rintro e w' ⟨rfl, rfl⟩) | (refine (fitting_no _ _ HS.out).mono ?_; rintro e w' ⟨rfl, rfl⟩))
  go_ret2
  exact ⟨rfl, rfl⟩
theorem subint_yes (a b : Int) (w : World) (ha : sm a = true) (hb : sm b = true) (hs : sm (a - b) = true) : Calls Tryz.prog 177 #[.int .i64 a, .int .i64 b] w fun e w' => e = .returned (.tuple #[.int .i64 (a - b), .bool true]) ∧ w = w' := by
  obtain ⟨a1, a2⟩ := sm_of ha
  obtain ⟨b1, b2⟩ := sm_of hb
  have HS := Lib.hid hs
  clear hs
  go_enter Tryz.func177, Tryz.ntmps177
  go_wp2_with (first | (refine (fits_calls _ _).mono ?_; rintro e w' ⟨rfl, rfl⟩) | (refine (fitting_yes _ _ HS.out).mono ?_; rintro e w' ⟨rfl, rfl⟩))
  go_ret2
  exact ⟨rfl, rfl⟩
theorem subint_no3 (a b : Int) (w : World) (ha : sm a = true) (hb : sm b = true) (hs : sm (a - b) = false) : Calls Tryz.prog 177 #[.int .i64 a, .int .i64 b] w fun e w' => e = .returned (.tuple #[.int .i64 0, .bool false]) ∧ w = w' := by
  obtain ⟨a1, a2⟩ := sm_of ha
  obtain ⟨b1, b2⟩ := sm_of hb
  have HS := Lib.hid hs
  clear hs
  go_enter Tryz.func177, Tryz.ntmps177
  go_wp2_with (first | (refine (fits_calls _ _).mono ?_; rintro e w' ⟨rfl, rfl⟩) | (refine (fitting_no _ _ HS.out).mono ?_; rintro e w' ⟨rfl, rfl⟩))
  go_ret2
  exact ⟨rfl, rfl⟩
theorem rsize_calls (n : Int) (w : World) (h : -9223372036854775808 < n) (h2 : n ≤ 9223372036854775807) : Calls Tryz.prog 181 #[.int .i64 n] w fun e w' => e = .returned (.int .i64 n.natAbs) ∧ w = w' := by
  rcases Int.lt_or_le n 0 with h3 | h3
  · have hs := Lib.hid (show 0 - n = (n.natAbs : Int) by omega)
    have hs2 := Lib.hid (show - n = (n.natAbs : Int) by omega)
    go_enter Tryz.func181, Tryz.ntmps181
    go_wp2
    all_goals (go_ret; first | exact ⟨ret_i hs.out, rfl⟩ | exact ⟨ret_i hs2.out, rfl⟩)
  · have hs := Lib.hid (show n = (n.natAbs : Int) by omega)
    go_enter Tryz.func181, Tryz.ntmps181
    go_wp2
    all_goals (go_ret; exact ⟨ret_i hs.out, rfl⟩)
def pm (a b : Int) : Bool := decide (a.natAbs * b.natAbs ≤ 9007199254740992)
theorem pm_div {a b : Int} (ha : a ≠ 0) : (pm a b = true) ↔ (b.natAbs : Int) ≤ 9007199254740992 / (a.natAbs : Int) := by
  unfold pm
  rw [decide_eq_true_iff, Nat.mul_comm, ← Nat.le_div_iff_mul_le (by omega), show (9007199254740992 : Int) = ((9007199254740992 : Nat) : Int) from rfl, ← Int.natCast_ediv]
  exact Int.ofNat_le.symm
theorem pm_zero {b : Int} : pm 0 b = true := by simp [pm]
theorem mulint_zero (b : Int) (w : World) (hb : sm b = true) : Calls Tryz.prog 178 #[.int .i64 0, .int .i64 b] w fun e w' => e = .returned (.tuple #[.int .i64 0, .bool true]) ∧ w = w' := by
  have ha : sm 0 = true := by decide
  obtain ⟨b1, b2⟩ := sm_of hb
  go_enter Tryz.func178, Tryz.ntmps178
  go_wp2_with (refine (fits_calls _ _).mono ?_; rintro e w' ⟨rfl, rfl⟩)
  go_ret2
  exact ⟨rfl, rfl⟩
theorem pm_bound {a b : Int} (h : pm a b = true) : -9007199254740992 ≤ a * b ∧ a * b ≤ 9007199254740992 := by
  have h1 : a.natAbs * b.natAbs ≤ 9007199254740992 := of_decide_eq_true h
  rw [← Int.natAbs_mul] at h1
  omega
theorem mulint_any (a b : Int) (w : World) (ha : sm a = true) (hb : sm b = true) (h0 : a ≠ 0) (r : Bool) (hr : pm a b = r) : Calls Tryz.prog 178 #[.int .i64 a, .int .i64 b] w fun e w' => e = .returned (.tuple #[.int .i64 (if r then a * b else 0), .bool r]) ∧ w = w' := by
  obtain ⟨a1, a2⟩ := sm_of ha
  obtain ⟨b1, b2⟩ := sm_of hb
  have hz : ((a : Int) == 0) = false := by simpa using h0
  have hz' : ((a : Int) != 0) = true := by simpa using h0
  have hd := pm_div (b := b) h0
  have q1 : 0 < (a.natAbs : Int) := by omega
  obtain ⟨u, hu⟩ : ∃ u : Nat, a.natAbs = u := ⟨_, rfl⟩
  obtain ⟨v, hv⟩ : ∃ v : Nat, b.natAbs = v := ⟨_, rfl⟩
  rw [hu] at q1
  rw [hu, hv] at hd
  have HU := Lib.hid hu
  have HV := Lib.hid hv
  have hu1 : (u : Int) ≤ 9007199254740992 := by omega
  clear hu hv
  cases r
  · have hlt : 9007199254740992 / (u : Int) < v := by
      rcases Int.lt_or_le (9007199254740992 / (u : Int)) v with h | h
      · exact h
      · rw [hd.2 h] at hr; cases hr
    clear hd hr h0
    go_enter Tryz.func178, Tryz.ntmps178
    go_wp2_with (first | (refine (fits_calls _ _).mono ?_; rintro e w' ⟨rfl, rfl⟩) | (refine (size_calls _ _ (by omega) (by omega)).mono ?_; rintro e w' ⟨rfl, rfl⟩; first | rw [HU.out] | rw [HV.out]))
    go_ret2
    exact ⟨rfl, rfl⟩
  · have hle := hd.1 hr
    have hb := pm_bound hr
    obtain ⟨p1, p2⟩ := hb
    clear hd hr h0
    go_enter Tryz.func178, Tryz.ntmps178
    go_wp2_with (first | (refine (fits_calls _ _).mono ?_; rintro e w' ⟨rfl, rfl⟩) | (refine (size_calls _ _ (by omega) (by omega)).mono ?_; rintro e w' ⟨rfl, rfl⟩; first | rw [HU.out] | rw [HV.out]))
    go_ret2
    exact ⟨rfl, rfl⟩
end Go.Proofs.YtbacchbcanlciaaGreatDoor

namespace Go.Proofs.YtbacchbcanlciaaGreatDoor
set_option maxRecDepth 100000
open Go.RowKit Fl
set_option linter.unusedVariables false
theorem wf_f64 {z : Nat} (h : (Lit.float .f64 z).wf = true) : z < 18446744073709551616 := by simpa [Lit.wf] using h
theorem bits_lt {op : BinOp} {a b z : Nat} (h : floatBits op .f64 a b = some z) : z < 18446744073709551616 := wf_f64 (floatBits_wf h)
theorem add_calls (a b z : Nat) (w : World) (h : floatBits .add .f64 a b = some z) : Calls Tryz.prog 184 #[.float .f64 a, .float .f64 b] w fun e w' => e = .returned (.tuple #[.float .f64 (rs z).1, .int .i64 (rs z).2]) ∧ w = w' := by
  have hz := Lib.hid (bits_lt h)
  have hop : ∀ t w, (binOp .add t (.float .f64 a) (.float .f64 b)).run Tryz.prog w = .ok (.float .f64 z) w := fun t w => run_float_arith w .add t .f64 a b z h
  clear h
  go_enter Tryz.func184, Tryz.ntmps184
  go_wp2_with (refine (result_calls _ _ hz.out).mono ?_; rintro e w' ⟨rfl, rfl⟩)
  go_ret2
  exact ⟨rfl, rfl⟩
theorem sub_calls (a b z : Nat) (w : World) (h : floatBits .sub .f64 a b = some z) : Calls Tryz.prog 185 #[.float .f64 a, .float .f64 b] w fun e w' => e = .returned (.tuple #[.float .f64 (rs z).1, .int .i64 (rs z).2]) ∧ w = w' := by
  have hz := Lib.hid (bits_lt h)
  have hop : ∀ t w, (binOp .sub t (.float .f64 a) (.float .f64 b)).run Tryz.prog w = .ok (.float .f64 z) w := fun t w => run_float_arith w .sub t .f64 a b z h
  clear h
  go_enter Tryz.func185, Tryz.ntmps185
  go_wp2_with (refine (result_calls _ _ hz.out).mono ?_; rintro e w' ⟨rfl, rfl⟩)
  go_ret2
  exact ⟨rfl, rfl⟩
theorem mul_calls (a b z : Nat) (w : World) (h : floatBits .mul .f64 a b = some z) : Calls Tryz.prog 186 #[.float .f64 a, .float .f64 b] w fun e w' => e = .returned (.tuple #[.float .f64 (rs z).1, .int .i64 (rs z).2]) ∧ w = w' := by
  have hz := Lib.hid (bits_lt h)
  have hop : ∀ t w, (binOp .mul t (.float .f64 a) (.float .f64 b)).run Tryz.prog w = .ok (.float .f64 z) w := fun t w => run_float_arith w .mul t .f64 a b z h
  clear h
  go_enter Tryz.func186, Tryz.ntmps186
  go_wp2_with (refine (result_calls _ _ hz.out).mono ?_; rintro e w' ⟨rfl, rfl⟩)
  go_ret2
  exact ⟨rfl, rfl⟩
theorem div_calls (a b z : Nat) (w : World) (hb : Fnt b) (h0 : V b ≠ 0) (h : floatBits .quo .f64 a b = some z) : Calls Tryz.prog 187 #[.float .f64 a, .float .f64 b] w fun e w' => e = .returned (.tuple #[.float .f64 (rs z).1, .int .i64 (rs z).2]) ∧ w = w' := by
  have hz := Lib.hid (bits_lt h)
  have hop : ∀ t w, (binOp .quo t (.float .f64 a) (.float .f64 b)).run Tryz.prog w = .ok (.float .f64 z) w := fun t w => run_float_arith w .quo t .f64 a b z h
  have ho : FloatKind.f64.format.order b 0 = some .lt ∨ FloatKind.f64.format.order b 0 = some .gt := ord_ne hb fin_zero (by rw [V_zero]; exact h0)
  clear h hb h0
  rcases ho with ho | ho
  all_goals
    go_enter Tryz.func187, Tryz.ntmps187
    go_wp2_with (refine (result_calls _ _ hz.out).mono ?_; rintro e w' ⟨rfl, rfl⟩)
    go_ret2
    exact ⟨rfl, rfl⟩
theorem div_zero (a : Nat) (w : World) (ha : Fnt a) (h0 : V a ≠ 0) : Calls Tryz.prog 187 #[.float .f64 a, .float .f64 0] w fun e w' => e = .returned (.tuple #[.float .f64 0, .int .i64 24]) ∧ w = w' := by
  have ho : FloatKind.f64.format.order a 0 = some .lt ∨ FloatKind.f64.format.order a 0 = some .gt := ord_ne ha fin_zero (by rw [V_zero]; exact h0)
  have h1 : FloatKind.f64.format.order 0 0 = some .eq := by decide
  clear ha h0
  rcases ho with ho | ho
  all_goals
    go_enter Tryz.func187, Tryz.ntmps187
    go_wp2
    go_ret2
    exact ⟨rfl, rfl⟩
theorem div_none (w : World) : Calls Tryz.prog 187 #[.float .f64 0, .float .f64 0] w fun e w' => e = .returned (.tuple #[.float .f64 4607182418800017408, .int .i64 0]) ∧ w = w' := by
  have h1 : FloatKind.f64.format.order 0 0 = some .eq := by decide
  go_enter Tryz.func187, Tryz.ntmps187
  go_wp2
  go_ret2
  exact ⟨rfl, rfl⟩
theorem reckon_add (a b z : Nat) (w : World) (h : floatBits .add .f64 a b = some z) : Calls Tryz.prog 136 #[.int .i64 0, .float .f64 a, .float .f64 b] w fun e w' => e = .returned (.tuple #[.float .f64 (rs z).1, .int .i64 (rs z).2]) ∧ w = w' := by
  have hz := Lib.hid (bits_lt h)
  have hop : ∀ t w, (binOp .add t (.float .f64 a) (.float .f64 b)).run Tryz.prog w = .ok (.float .f64 z) w := fun t w => run_float_arith w .add t .f64 a b z h
  clear h
  go_enter Tryz.func136, Tryz.ntmps136
  go_wp2_with (refine (done_calls _ _ hz.out).mono ?_; rintro e w' ⟨rfl, rfl⟩)
  go_ret2
  exact ⟨rfl, rfl⟩
theorem reckon_sub (a b z : Nat) (w : World) (h : floatBits .sub .f64 a b = some z) : Calls Tryz.prog 136 #[.int .i64 1, .float .f64 a, .float .f64 b] w fun e w' => e = .returned (.tuple #[.float .f64 (rs z).1, .int .i64 (rs z).2]) ∧ w = w' := by
  have hz := Lib.hid (bits_lt h)
  have hop : ∀ t w, (binOp .sub t (.float .f64 a) (.float .f64 b)).run Tryz.prog w = .ok (.float .f64 z) w := fun t w => run_float_arith w .sub t .f64 a b z h
  clear h
  go_enter Tryz.func136, Tryz.ntmps136
  go_wp2_with (refine (done_calls _ _ hz.out).mono ?_; rintro e w' ⟨rfl, rfl⟩)
  go_ret2
  exact ⟨rfl, rfl⟩
theorem reckon_mul (a b z : Nat) (w : World) (h : floatBits .mul .f64 a b = some z) : Calls Tryz.prog 136 #[.int .i64 2, .float .f64 a, .float .f64 b] w fun e w' => e = .returned (.tuple #[.float .f64 (rs z).1, .int .i64 (rs z).2]) ∧ w = w' := by
  have hz := Lib.hid (bits_lt h)
  have hop : ∀ t w, (binOp .mul t (.float .f64 a) (.float .f64 b)).run Tryz.prog w = .ok (.float .f64 z) w := fun t w => run_float_arith w .mul t .f64 a b z h
  clear h
  go_enter Tryz.func136, Tryz.ntmps136
  go_wp2_with (refine (done_calls _ _ hz.out).mono ?_; rintro e w' ⟨rfl, rfl⟩)
  go_ret2
  exact ⟨rfl, rfl⟩
theorem reckon_quo (a b z : Nat) (w : World) (ha : Fnt a) (hb : Fnt b) (h0 : V b ≠ 0) (h : floatBits .quo .f64 a b = some z) : Calls Tryz.prog 136 #[.int .i64 3, .float .f64 a, .float .f64 b] w fun e w' => e = .returned (.tuple #[.float .f64 (rs z).1, .int .i64 (rs z).2]) ∧ w = w' := by
  have hz := Lib.hid (bits_lt h)
  have hop : ∀ t w, (binOp .quo t (.float .f64 a) (.float .f64 b)).run Tryz.prog w = .ok (.float .f64 z) w := fun t w => run_float_arith w .quo t .f64 a b z h
  have ho : FloatKind.f64.format.order b 0 = some .lt ∨ FloatKind.f64.format.order b 0 = some .gt := ord_ne hb fin_zero (by rw [V_zero]; exact h0)
  have ho2 : FloatKind.f64.format.order a 0 = some .lt ∨ FloatKind.f64.format.order a 0 = some .eq ∨ FloatKind.f64.format.order a 0 = some .gt := by
    rcases ord_cases ha fin_zero with h | h | h
    · exact .inl h.2
    · exact .inr (.inl h.2)
    · exact .inr (.inr h.2)
  clear h hb h0 ha
  rcases ho with ho | ho <;> rcases ho2 with ho2 | ho2 | ho2
  all_goals
    go_enter Tryz.func136, Tryz.ntmps136
    go_wp2_with (refine (done_calls _ _ hz.out).mono ?_; rintro e w' ⟨rfl, rfl⟩)
    go_ret2
    exact ⟨rfl, rfl⟩
theorem reckon_zero (a : Nat) (w : World) (ha : Fnt a) (h0 : V a ≠ 0) : Calls Tryz.prog 136 #[.int .i64 3, .float .f64 a, .float .f64 0] w fun e w' => e = .returned (.tuple #[.float .f64 0, .int .i64 24]) ∧ w = w' := by
  have ho : FloatKind.f64.format.order a 0 = some .lt ∨ FloatKind.f64.format.order a 0 = some .gt := ord_ne ha fin_zero (by rw [V_zero]; exact h0)
  have h1 : FloatKind.f64.format.order 0 0 = some .eq := by decide
  clear ha h0
  rcases ho with ho | ho
  all_goals
    go_enter Tryz.func136, Tryz.ntmps136
    go_wp2
    go_ret2
    exact ⟨rfl, rfl⟩
theorem reckon_none (w : World) : Calls Tryz.prog 136 #[.int .i64 3, .float .f64 0, .float .f64 0] w fun e w' => e = .returned (.tuple #[.float .f64 4607182418800017408, .int .i64 0]) ∧ w = w' := by
  have h1 : FloatKind.f64.format.order 0 0 = some .eq := by decide
  go_enter Tryz.func136, Tryz.ntmps136
  go_wp2
  go_ret2
  exact ⟨rfl, rfl⟩
theorem flag_calls (b : Bool) (w : World) : Calls Tryz.prog 49 #[.bool b] w fun e w' => e = .returned (.float .f64 (if b then 4607182418800017408 else 0)) ∧ w = w' := by
  cases b
  all_goals
    go_enter Tryz.func49, Tryz.ntmps49
    go_wp2
    go_ret
    exact ⟨rfl, rfl⟩
theorem truth_calls (x : Nat) (w : World) (h : Fnt x) : Calls Tryz.prog 89 #[.float .f64 x] w fun e w' => e = .returned (.tuple #[.bool (decide (V x = pw 1074)), .bool (decide (V x = 0) || decide (V x = pw 1074))]) ∧ w = w' := by
  have hp := pw_pos 1074
  have key : (FloatKind.f64.format.order x 0 = some .eq ∧ FloatKind.f64.format.order x 4607182418800017408 = some .lt ∧ V x = 0 ∧ V x ≠ pw 1074)
     ∨ ((FloatKind.f64.format.order x 0 = some .gt ∨ FloatKind.f64.format.order x 0 = some .lt) ∧ (FloatKind.f64.format.order x 4607182418800017408 = some .lt ∨ FloatKind.f64.format.order x 4607182418800017408 = some .gt) ∧ V x ≠ 0 ∧ V x ≠ pw 1074)
     ∨ (FloatKind.f64.format.order x 0 = some .gt ∧ FloatKind.f64.format.order x 4607182418800017408 = some .eq ∧ V x ≠ 0 ∧ V x = pw 1074) := by
    have a := ord_cases h fin_zero
    have b := ord_cases h one_fin
    rw [V_zero] at a
    rw [V_one] at b
    rcases a with ⟨a1, a2⟩ | ⟨a1, a2⟩ | ⟨a1, a2⟩ <;> rcases b with ⟨b1, b2⟩ | ⟨b1, b2⟩ | ⟨b1, b2⟩ <;> first
      | omega
      | exact .inl ⟨a2, b2, by omega, by omega⟩
      | exact .inr (.inr ⟨a2, b2, by omega, by omega⟩)
      | exact .inr (.inl ⟨by first | exact .inl a2 | exact .inr a2, by first | exact .inl b2 | exact .inr b2, by omega, by omega⟩)
  clear h hp
  rcases key with ⟨h1, h2, h3, h4⟩ | ⟨h1 | h1, h2 | h2, h3, h4⟩ | ⟨h1, h2, h3, h4⟩
  all_goals
    have H3 := Lib.hid (show decide (V x = 0) = _ from by first | exact decide_eq_true h3 | exact decide_eq_false h3)
    have H4 := Lib.hid (show decide (V x = (pw 1074 : Int)) = _ from by first | exact decide_eq_true h4 | exact decide_eq_false h4)
    rw [H3.out, H4.out]
    clear h3 h4
    go_enter Tryz.func89, Tryz.ntmps89
    go_wp2
    go_ret2
    exact ⟨rfl, rfl⟩
def mxw (x y : Nat) : Nat := if V x < V y then y else x
def mnw (x y : Nat) : Nat := if V y < V x then y else x
theorem max_calls (x y : Nat) (w : World) (hx : Num x) (hy : Num y) : Calls Tryz.prog 188 #[.float .f64 x, .float .f64 y] w fun e w' => e = .returned (.float .f64 (mxw x y)) ∧ w = w' := by
  have hop : ∀ ts t w, (Builtin.max_ ts t #[.float .f64 x, .float .f64 y]).run Tryz.prog w = .ok (.float .f64 (mxw x y)) w := by
    intro ts t w
    rcases ord_cases hx.1 hy.1 with ⟨h1, h2⟩ | ⟨h1, h2⟩ | ⟨h1, h2⟩
    · have h2 : FloatKind.f64.format.order x y = _ := h2
      simp [Builtin.max_, Builtin.max2, h2, mxw, h1]
    · have h2 : FloatKind.f64.format.order x y = _ := h2
      have h3 := V_inj hx hy h1
      subst h3
      simp [Builtin.max_, Builtin.max2, h2, mxw]
    · have h2 : FloatKind.f64.format.order x y = _ := h2
      have h3 : ¬ V x < V y := by omega
      simp [Builtin.max_, Builtin.max2, h2, mxw, h3]
  clear hx hy
  go_enter Tryz.func188, Tryz.ntmps188
  go_wp2
  go_ret
  exact ⟨rfl, rfl⟩
theorem min_calls (x y : Nat) (w : World) (hx : Num x) (hy : Num y) : Calls Tryz.prog 189 #[.float .f64 x, .float .f64 y] w fun e w' => e = .returned (.float .f64 (mnw x y)) ∧ w = w' := by
  have hop : ∀ ts t w, (Builtin.min_ ts t #[.float .f64 x, .float .f64 y]).run Tryz.prog w = .ok (.float .f64 (mnw x y)) w := by
    intro ts t w
    rcases ord_cases hx.1 hy.1 with ⟨h1, h2⟩ | ⟨h1, h2⟩ | ⟨h1, h2⟩
    · have h2 : FloatKind.f64.format.order x y = _ := h2
      have h3 : ¬ V y < V x := by omega
      simp [Builtin.min_, Builtin.min2, h2, mnw, h3]
    · have h2 : FloatKind.f64.format.order x y = _ := h2
      have h3 := V_inj hx hy h1
      subst h3
      simp [Builtin.min_, Builtin.min2, h2, mnw]
    · have h2 : FloatKind.f64.format.order x y = _ := h2
      simp [Builtin.min_, Builtin.min2, h2, mnw, h1]
  clear hx hy
  go_enter Tryz.func189, Tryz.ntmps189
  go_wp2
  go_ret
  exact ⟨rfl, rfl⟩
end Go.Proofs.YtbacchbcanlciaaGreatDoor

namespace Go.Proofs.YtbacchbcanlciaaGreatDoor
set_option maxRecDepth 100000
open Go.RowKit Fl
set_option linter.unusedVariables false
def rst (a b : Int) : Int := if a = 0 then b else if b.tmod a ≠ 0 ∧ (b.tmod a < 0 ↔ ¬ a < 0) then b.tmod a + a else b.tmod a
theorem tmod_bounds {a b : Int} (ha : a ≠ 0) : (b.tmod a).natAbs < a.natAbs := by
  have h : b.tmod a = b.tmod (a.natAbs : Int) := by
    rcases Int.lt_or_le a 0 with h | h
    · rw [show ((a.natAbs : Nat) : Int) = -a by omega, Int.tmod_neg]
    · rw [show ((a.natAbs : Nat) : Int) = a by omega]
  have h1 := Int.tmod_lt_of_pos b (b := (a.natAbs : Int)) (by omega)
  have h2 := Int.lt_tmod_of_pos b (b := (a.natAbs : Int)) (by omega)
  rw [← h] at h1 h2
  omega
theorem tdiv_bounds {a b : Int} (h1 : -9223372036854775808 ≤ b) (h2 : b ≤ 9223372036854775807) (ha : a ≠ 0) (hm : a ≠ -1) : -9223372036854775808 ≤ b.tdiv a ∧ b.tdiv a ≤ 9223372036854775807 := by
  have h3 : (b.tdiv a).natAbs = b.natAbs / a.natAbs := Int.natAbs_tdiv b a
  have h4 := Nat.div_le_self b.natAbs a.natAbs
  rcases Int.lt_or_le a 0 with h | h
  · have h5 : b.natAbs / a.natAbs ≤ b.natAbs / 2 := Nat.div_le_div_left (by omega) (by decide)
    omega
  · rcases Int.lt_or_le b 0 with g | g
    · have : b.tdiv a ≤ 0 := by
        obtain ⟨m, rfl⟩ : ∃ m : Nat, b = -(m : Int) := ⟨b.natAbs, by omega⟩
        rw [Int.neg_tdiv]
        have := Int.tdiv_nonneg (a := (m : Int)) (b := a) (by omega) h
        omega
      omega
    · have := Int.tdiv_nonneg (a := b) (b := a) g h
      omega
theorem wf_i64 {a : Int} (h : (Lit.int .i64 a).wf = true) : -9223372036854775808 ≤ a ∧ a ≤ 9223372036854775807 := by
  have hm : IntKind.i64.min = -9223372036854775808 ∧ IntKind.i64.max = 9223372036854775807 := by decide
  simp only [Lit.wf, decide_eq_true_eq, Bool.and_eq_true] at h
  rw [hm.1, hm.2] at h; exact h
set_option maxHeartbeats 1000000 in
theorem restint_calls (a b : Int) (w : World) (ha : (Lit.int .i64 a).wf = true) (hb : (Lit.int .i64 b).wf = true) : Calls Tryz.prog 212 #[.int .i64 a, .int .i64 b] w fun e w' => e = .returned (.int .i64 (rst a b)) ∧ w = w' := by
  obtain ⟨a1, a2⟩ := wf_i64 ha
  obtain ⟨b1, b2⟩ := wf_i64 hb
  clear ha hb
  by_cases h0 : a = 0
  · subst h0
    have HR := Lib.hid (show b = rst 0 b from (if_pos rfl).symm)
    go_enter Tryz.func212, Tryz.ntmps212
    go_wp2
    go_ret
    exact ⟨ret_i HR.out, rfl⟩
  have hz : ((a : Int) == 0) = false := by simpa using h0
  have hbd := tmod_bounds (b := b) h0
  have hdef : rst a b = if b.tmod a ≠ 0 ∧ (b.tmod a < 0 ↔ ¬ a < 0) then b.tmod a + a else b.tmod a := if_neg h0
  obtain ⟨r, hr⟩ : ∃ r, b.tmod a = r := ⟨_, rfl⟩
  rw [hr] at hbd hdef
  have hw : wrap64 (r + a) = r + a ∨ ¬ (r < 0 ↔ ¬ a < 0) := by
    by_cases h : (r < 0 ↔ ¬ a < 0)
    · exact .inl (IntWalk.wrap64_in _ (by omega))
    · exact .inr h
  have HD := Lib.hid hdef
  clear hdef
  rcases Int.lt_trichotomy r 0 with r0 | r0 | r0 <;> rcases Int.lt_trichotomy a 0 with s0 | s0 | s0 <;> try omega
  all_goals
    rcases hw with hw | hw <;> try omega
    try have hz1 : ((r : Int) != 0) = true := by simp; omega
    go_enter Tryz.func212, Tryz.ntmps212
    go_wp2
    all_goals
      go_ret
      exact ⟨ret_i (by rw [HD.out]; split <;> first | rfl | omega | (exfalso; simp_all <;> omega)), rfl⟩
set_option maxHeartbeats 1000000 in
theorem rrest_calls (a b : Int) (w : World) (ha : (Lit.int .i64 a).wf = true) (hb : (Lit.int .i64 b).wf = true) : Calls Tryz.prog 138 #[.int .i64 a, .int .i64 b] w fun e w' => e = .returned (.int .i64 (rst a b)) ∧ w = w' := by
  obtain ⟨a1, a2⟩ := wf_i64 ha
  obtain ⟨b1, b2⟩ := wf_i64 hb
  clear ha hb
  by_cases h0 : a = 0
  · subst h0
    have HR := Lib.hid (show b = rst 0 b from (if_pos rfl).symm)
    go_enter Tryz.func138, Tryz.ntmps138
    go_wp2
    go_ret
    exact ⟨ret_i HR.out, rfl⟩
  by_cases h1 : a = -1
  · subst h1
    have HR := Lib.hid (show 0 = rst (-1) b from by
      have hbd := tmod_bounds (a := -1) (b := b) (by decide)
      have h2 : b.tmod (-1) = 0 := by omega
      unfold rst
      rw [if_neg (by decide), h2]; simp)
    go_enter Tryz.func138, Tryz.ntmps138
    go_wp2
    go_ret
    exact ⟨ret_i HR.out, rfl⟩
  have hz : ((a : Int) == 0) = false := by simpa using h0
  have hz' : ((a : Int) == -1) = false := by simpa using h1
  have hbd := tmod_bounds (b := b) h0
  have hq := tdiv_bounds b1 b2 h0 h1
  have hqm := Int.mul_tdiv_add_tmod b a
  have hdef : rst a b = if b.tmod a ≠ 0 ∧ (b.tmod a < 0 ↔ ¬ a < 0) then b.tmod a + a else b.tmod a := if_neg h0
  have hsn : (0 ≤ b → 0 ≤ b.tmod a) ∧ (b ≤ 0 → b.tmod a ≤ 0) := by
    constructor
    · intro h; exact Int.tmod_nonneg a h
    · intro h
      have := Int.tmod_nonneg a (show 0 ≤ -b by omega)
      rw [Int.neg_tmod] at this; omega
  have hle : (b.tmod a).natAbs ≤ b.natAbs := by
    rw [Int.natAbs_tmod]; exact Nat.mod_le _ _
  obtain ⟨r, hr⟩ : ∃ r, b.tmod a = r := ⟨_, rfl⟩
  rw [hr] at hbd hdef hqm hsn hle
  rw [Int.mul_comm] at hqm
  obtain ⟨q, hq'⟩ : ∃ q, b.tdiv a = q := ⟨_, rfl⟩
  rw [hq'] at hq hqm
  obtain ⟨m, hm⟩ : ∃ m, q * a = m := ⟨_, rfl⟩
  rw [hm] at hqm
  have e1 : wrap64 q = q := IntWalk.wrap64_in _ (by omega)
  have e2 : wrap64 m = m := IntWalk.wrap64_in _ (by omega)
  have e3 : wrap64 (b - m) = r := by rw [show b - m = r by omega]; exact IntWalk.wrap64_in _ (by omega)
  have hw : wrap64 (r + a) = r + a ∨ ¬ (r < 0 ↔ ¬ a < 0) := by
    by_cases h : (r < 0 ↔ ¬ a < 0)
    · exact .inl (IntWalk.wrap64_in _ (by omega))
    · exact .inr h
  have HD := Lib.hid hdef
  clear hdef hqm hr hsn hle
  rcases Int.lt_trichotomy r 0 with r0 | r0 | r0 <;> rcases Int.lt_trichotomy a 0 with s0 | s0 | s0 <;> try omega
  all_goals
    rcases hw with hw | hw <;> try omega
    go_enter Tryz.func138, Tryz.ntmps138
    go_wp2
    all_goals
      go_ret
      exact ⟨ret_i (by rw [HD.out]; split <;> first | rfl | omega | (exfalso; simp_all <;> omega)), rfl⟩
end Go.Proofs.YtbacchbcanlciaaGreatDoor

namespace Go.Proofs.YtbacchbcanlciaaGreatDoor
set_option maxRecDepth 100000
open Go.RowKit Fl
set_option linter.unusedVariables false
theorem wh_wf {x : Nat} {n : Int} (h : Wh x n) : (Lit.int .i64 n).wf = true := by
  have hm : IntKind.i64.min = -9223372036854775808 ∧ IntKind.i64.max = 9223372036854775807 := by decide
  have := h.2.1
  simp only [Lit.wf, decide_eq_true_eq, Bool.and_eq_true]
  rw [hm.1, hm.2]; omega
theorem rest_yes (a b : Nat) (m n : Int) (w : World) (ha : Wh a m) (hb : Wh b n) : Calls Tryz.prog 190 #[.float .f64 a, .float .f64 b] w fun e w' => e = .returned (.tuple #[.float .f64 (floatOfInt .f64 (rst m n)), .int .i64 0]) ∧ w = w' := by
  have HA := Lib.hid ha
  have HB := Lib.hid hb
  have hc2 : ∀ w, (convert 2 42 (.int .i64 (rst m n))).run Tryz.prog w = .ok (.float .f64 (floatOfInt .f64 (rst m n))) w := fun w => run_convert_int_float w 2 42 .i64 .f64 _ (by kernel_rfl) (by kernel_rfl)
  clear ha hb
  go_enter Tryz.func190, Tryz.ntmps190
  go_wp2_with (first | ((with_reducible refine (whole_yes _ _ _ HA.out).mono ?_); rintro e w' ⟨rfl, rfl⟩) | ((with_reducible refine (whole_yes _ _ _ HB.out).mono ?_); rintro e w' ⟨rfl, rfl⟩) | ((with_reducible refine (restint_calls _ _ _ (wh_wf HA.out) (wh_wf HB.out)).mono ?_); rintro e w' ⟨rfl, rfl⟩))
  go_ret2
  exact ⟨rfl, rfl⟩
theorem rest_no1 (a b : Nat) (w : World) (ha' : a < 18446744073709551616) (ha : ∀ n, ¬ Wh a n) (hb' : b < 18446744073709551616) : Calls Tryz.prog 190 #[.float .f64 a, .float .f64 b] w fun e w' => e = .returned (.tuple #[.float .f64 0, .int .i64 24]) ∧ w = w' := by
  have HA := Lib.hid ha
  have HA' := Lib.hid ha'
  have HB' := Lib.hid hb'
  clear ha ha' hb'
  by_cases hb : ∃ n, Wh b n
  · obtain ⟨n, hn⟩ := hb
    have HB := Lib.hid hn
    clear hn
    go_enter Tryz.func190, Tryz.ntmps190
    go_wp2_with (first | ((with_reducible refine (whole_no _ _ HA'.out HA.out).mono ?_); rintro e w' ⟨rfl, rfl⟩) | ((with_reducible refine (whole_yes _ _ _ HB.out).mono ?_); rintro e w' ⟨rfl, rfl⟩))
    go_ret2
    exact ⟨rfl, rfl⟩
  · have HB : Hid (∀ n, ¬ Wh b n) := Lib.hid (fun n hn => hb ⟨n, hn⟩)
    clear hb
    go_enter Tryz.func190, Tryz.ntmps190
    go_wp2_with (first | ((with_reducible refine (whole_no _ _ HA'.out HA.out).mono ?_); rintro e w' ⟨rfl, rfl⟩) | ((with_reducible refine (whole_no _ _ HB'.out HB.out).mono ?_); rintro e w' ⟨rfl, rfl⟩))
    go_ret2
    exact ⟨rfl, rfl⟩
theorem rest_no2 (a b : Nat) (m : Int) (w : World) (ha : Wh a m) (hb' : b < 18446744073709551616) (hb : ∀ n, ¬ Wh b n) : Calls Tryz.prog 190 #[.float .f64 a, .float .f64 b] w fun e w' => e = .returned (.tuple #[.float .f64 0, .int .i64 24]) ∧ w = w' := by
  have HA := Lib.hid ha
  have HB' := Lib.hid hb'
  have HB := Lib.hid hb
  clear ha hb hb'
  go_enter Tryz.func190, Tryz.ntmps190
  go_wp2_with (first | ((with_reducible refine (whole_yes _ _ _ HA.out).mono ?_); rintro e w' ⟨rfl, rfl⟩) | ((with_reducible refine (whole_no _ _ HB'.out HB.out).mono ?_); rintro e w' ⟨rfl, rfl⟩))
  go_ret2
  exact ⟨rfl, rfl⟩

def FV (v : Nat) (o : Option Nat) : Prop := v < 18446744073709551616 ∧ ((o = some v) ∨ (o = none ∧ ∃ s t, Ieee.double.read v = .nan s t))
def fm (a b : Option Nat) : Option Nat := a.bind fun x => b.bind fun y => Ieee.double.mul x y
theorem mul_nan {x y : Nat} (h : (∃ s t, Ieee.double.read x = .nan s t) ∨ ∃ s t, Ieee.double.read y = .nan s t) : Ieee.double.mul x y = none := by
  unfold Ieee.Format.mul
  rcases h with ⟨s, t, h⟩ | ⟨s, t, h⟩ <;> rw [h]
  · rfl
  · cases Ieee.double.read x <;> rfl
theorem read_nan (s : Bool) (r : Nat) (h1 : 9218868437227405312 < r) (h2 : r < 9223372036854775808) : ∃ s' t, Ieee.double.read (Ieee.double.word s r) = .nan s' t := by
  have h := word_sg s r h2
  have hn : ¬ Fnt (Ieee.double.word s r) := fun e => by have := e.2; rw [h.2.1] at this; omega
  rcases read_non h.1 hn with ⟨s', _, e⟩ | h'
  · have : Ieee.double.word s r % 9223372036854775808 = 9218868437227405312 := by rw [e]; cases s' <;> decide
    rw [h.2.1] at this; omega
  · exact h'
theorem mul_any (P : Program) (w : World) {v1 v2 : Nat} {o1 o2 : Option Nat} (h1 : FV v1 o1) (h2 : FV v2 o2) :
    ∃ z q, (∀ t, (binOp .mul t (.float .f64 v1) (.float .f64 v2)).run P w = .ok (.float .f64 z) (w.drewN q)) ∧ FV z (fm o1 o2) := by
  have hm : fm o1 o2 = Ieee.double.mul v1 v2 := by
    rcases h1.2 with rfl | ⟨rfl, hn⟩
    · rcases h2.2 with rfl | ⟨rfl, hn⟩
      · rfl
      · rw [mul_nan (.inr hn)]; rfl
    · rw [mul_nan (.inl hn)]; rfl
  cases hz : Ieee.double.mul v1 v2 with
  | some z =>
    refine ⟨z, 0, fun t => run_float_arith w .mul t .f64 v1 v2 z hz, bits_lt (op := .mul) hz, .inl ?_⟩
    rw [hm, hz]
  | none =>
    have hr : ∀ t, (binOp .mul t (.float .f64 v1) (.float .f64 v2)).run P w = .ok (.float .f64 ((Question.nanBits .f64 v1 v2).cut (w.tape w.drawn (.nanBits .f64 v1 v2)))) (w.drewN 1) := by
      intro t
      have hz' : FloatKind.f64.format.mul v1 v2 = none := hz
      simp [binOp, Op.floatArith, hz', choose, Sem.run, Question.forced]
      rfl
    refine ⟨_, 1, hr, ?_⟩
    generalize w.tape w.drawn (.nanBits .f64 v1 v2) = t
    have e : ∃ s r, (Question.nanBits .f64 v1 v2).cut t = Ieee.double.word s r ∧ 9218868437227405312 < r ∧ r < 9223372036854775808 := by
      show ∃ s r, (t % 2) * 2 ^ 63 + 0x7ff0000000000000 + 1 + (t / 2) % (2 ^ 52 - 1) = Ieee.double.word s r ∧ _
      refine ⟨t % 2 == 1, 9218868437227405312 + 1 + (t / 2) % 4503599627370495, ?_, by omega, by omega⟩
      unfold Ieee.Format.word
      rw [dbl_sw]
      rcases Nat.mod_two_eq_zero_or_one t with h | h <;> simp [h] <;> omega
    obtain ⟨s, r, e, r1, r2⟩ := e
    rw [e]
    exact ⟨(word_sg s r r2).1, .inr ⟨by rw [hm, hz], read_nan s r r1 r2⟩⟩
def tms : Nat → Nat → Option Nat → Option Nat → Option Nat
  | 0, _, o, _ => o
  | n + 1, k, o, x => if k = 0 then o else tms n (k / 2) (if k % 2 = 1 then fm o x else o) (fm x x)
theorem tms_zero (n : Nat) (o x : Option Nat) : tms n 0 o x = o := by cases n <;> rfl
theorem one_fv : FV 4607182418800017408 (some 4607182418800017408) := ⟨by decide, .inl rfl⟩
def Tmd (tot : Option Nat) (w : World) (e : Ending) (w' : World) : Prop := ∃ v m, e = .returned (.float .f64 v) ∧ FV v tot ∧ w' = w.drewN m
set_option maxHeartbeats 1000000 in
theorem times_calls (x k : Nat) (w : World) (hx : x < 18446744073709551616) (hk : k < 1024) : Calls Tryz.prog 213 #[.float .f64 x, .int .i64 k] w (Tmd (tms 10 k (some 4607182418800017408) (some x)) w) := by
  obtain ⟨tot, htot⟩ : ∃ tot, tms 10 k (some 4607182418800017408) (some x) = tot := ⟨_, rfl⟩
  rw [htot]
  have HT := Lib.hid htot
  have HX : Hid (FV x (some x)) := Lib.hid ⟨hx, .inl rfl⟩
  have HK : Hid (k < 2 ^ 10) := Lib.hid hk
  clear htot hx hk
  go_enter Tryz.func213, Tryz.ntmps213
  go_wp2
  go_loopw [0, 1, 5] (fun u0 u1 u5 wr => ∃ n kk X O : Nat, ∃ ox oo m, u0 = .float .f64 X ∧ u1 = .int .i64 kk ∧ u5 = .float .f64 O ∧ FV X ox ∧ FV O oo ∧ kk < 2 ^ n ∧ kk < 1024 ∧ tms n kk oo ox = tot ∧ wr = w.drewN m) (fun _ u1 _ _ => (intOf u1).toNat)
  case atStart => exact ⟨10, k, x, _, some x, _, 0, rfl, rfl, rfl, HX.out, one_fv, HK.out, HK.out, HT.out, rfl⟩
  case round =>
    obtain ⟨n, kk, X, O, ox, oo, m, rfl, rfl, rfl, hX, hO, hlt, hkb, heq, rfl⟩ := hrel
    rcases Nat.eq_zero_or_pos kk with h0 | h0
    · subst h0
      have HE : Hid (oo = tot) := Lib.hid (by rw [← heq, tms_zero])
      have HO := Lib.hid hO
      clear heq hX hO hlt
      go_wp2
      go_ret
      exact ⟨O, m, rfl, HE.out ▸ HO.out, rfl⟩
    · have hn : n ≠ 0 := by rintro rfl; simp at hlt; omega
      obtain ⟨n', rfl⟩ : ∃ n', n = n' + 1 := ⟨n - 1, by omega⟩
      have hlt' : Hid (kk / 2 < 2 ^ n') := Lib.hid (by rw [Nat.pow_succ] at hlt; omega)
      have heq' : tms n' (kk / 2) (if kk % 2 = 1 then fm oo ox else oo) (fm ox ox) = tot := by rw [← heq, tms, if_neg (c := kk = 0) (by omega)]
      by_cases hodd : kk % 2 = 1
      · rw [if_pos hodd] at heq'
        have HQ := Lib.hid heq'
        obtain ⟨z, q, hop, hz⟩ := mul_any Tryz.prog (w.drewN m) hO hX
        obtain ⟨x2, q2, hop2, hx2⟩ := mul_any Tryz.prog (w.drewN (m + q)) hX hX
        have hodd' : ((kk : Int) % 2 == 1) = true := by simp; omega
        have HZ := Lib.hid hz
        have HX2 := Lib.hid hx2
        clear heq heq' hodd hX hO hz hx2 hlt hn
        go_wp2
        go_roundw
        case rel => exact ⟨n', kk / 2, x2, z, _, _, _, rfl, by go_num, rfl, HX2.out, HZ.out, hlt'.out, by omega, HQ.out, rfl⟩
        case measure => simp [intOf]; omega
      · rw [if_neg hodd] at heq'
        have HQ := Lib.hid heq'
        obtain ⟨x2, q2, hop2, hx2⟩ := mul_any Tryz.prog (w.drewN m) hX hX
        have hodd' : ((kk : Int) % 2 == 1) = false := by simp; omega
        have HO := Lib.hid hO
        have HX2 := Lib.hid hx2
        clear heq heq' hodd hX hO hx2 hlt hn
        go_wp2
        go_roundw
        case rel => exact ⟨n', kk / 2, x2, O, _, _, _, rfl, by go_num, rfl, HX2.out, HO.out, hlt'.out, by omega, HQ.out, rfl⟩
        case measure => simp [intOf]; omega
def pwr (a : Nat) (n : Int) : Nat × Int :=
  match tms 10 n.natAbs (some 4607182418800017408) (some a) with
  | none => (0, 24)
  | some z => if 0 ≤ n then rs z else if z % 9223372036854775808 < 9218868437227405312 ∧ V z ≠ 0 then rs ((Ieee.double.div 4607182418800017408 z).getD 0) else (0, 24)
def Pwd (r : Nat × Int) (w : World) (e : Ending) (w' : World) : Prop := e = .returned (.tuple #[.float .f64 r.1, .int .i64 r.2]) ∧ ∃ m, w' = w.drewN m
theorem ret_p {r : Nat × Int} {a : Nat} {i : Int} (h : r = (a, i)) : Ending.returned (.tuple #[.float .f64 a, .int .i64 i]) = .returned (.tuple #[.float .f64 r.1, .int .i64 r.2]) := by rw [h]
theorem power_no (a b : Nat) (w : World) (hb : b < 18446744073709551616) (h : ∀ n, ¬ Wh b n) : Calls Tryz.prog 191 #[.float .f64 a, .float .f64 b] w (Pwd (0, 24) w) := by
  have HB := Lib.hid hb
  have HN := Lib.hid h
  clear hb h
  go_enter Tryz.func191, Tryz.ntmps191
  go_wp2_with ((with_reducible refine (whole_no _ _ HB.out HN.out).mono ?_); rintro e w' ⟨rfl, rfl⟩)
  go_ret2
  exact ⟨rfl, 0, rfl⟩
theorem power_much (a b : Nat) (n : Int) (w : World) (h : Wh b n) (hn : 1023 < n.natAbs) : Calls Tryz.prog 191 #[.float .f64 a, .float .f64 b] w (Pwd (0, 24) w) := by
  have HB := Lib.hid h
  have HW := Lib.hid (show -9223372036854775808 < n ∧ n ≤ 9223372036854775807 by have := h.2.1; omega)
  obtain ⟨k, hk⟩ : ∃ k : Nat, n.natAbs = k := ⟨_, rfl⟩
  rw [hk] at hn
  have HK := Lib.hid hk
  clear h hk
  go_enter Tryz.func191, Tryz.ntmps191
  go_wp2_with (first | ((with_reducible refine (whole_yes _ _ _ HB.out).mono ?_); rintro e w' ⟨rfl, rfl⟩) | ((with_reducible refine (size_calls _ _ HW.out.1 HW.out.2).mono ?_); rintro e w' ⟨rfl, rfl⟩; rw [HK.out]))
  go_ret2
  exact ⟨rfl, 0, rfl⟩
theorem div_one_zero (w : World) : Calls Tryz.prog 187 #[.float .f64 4607182418800017408, .float .f64 0] w fun e w' => e = .returned (.tuple #[.float .f64 0, .int .i64 24]) ∧ w = w' := div_zero _ w one_fin (by rw [V_one]; have := pw_pos 1074; omega)
theorem pwr_none {a : Nat} {n : Int} (h : tms 10 n.natAbs (some 4607182418800017408) (some a) = none) : pwr a n = (0, 24) := by unfold pwr; rw [h]
theorem pwr_up {a z : Nat} {n : Int} (h : tms 10 n.natAbs (some 4607182418800017408) (some a) = some z) (hn : 0 ≤ n) : pwr a n = rs z := by unfold pwr; rw [h]; exact if_pos hn
theorem pwr_down {a z y : Nat} {n : Int} (h : tms 10 n.natAbs (some 4607182418800017408) (some a) = some z) (hn : n < 0) (hz : Fnt z) (h0 : V z ≠ 0) (hy : Ieee.double.div 4607182418800017408 z = some y) : pwr a n = rs y := by
  unfold pwr; rw [h]
  show (if 0 ≤ n then rs z else _) = _
  rw [if_neg (by omega), if_pos ⟨hz.2, h0⟩, hy, Option.getD_some]
theorem pwr_off {a z : Nat} {n : Int} (h : tms 10 n.natAbs (some 4607182418800017408) (some a) = some z) (hn : n < 0) (hz : ¬ (Fnt z ∧ V z ≠ 0)) (hb : z < 18446744073709551616) : pwr a n = (0, 24) := by
  unfold pwr; rw [h]
  show (if 0 ≤ n then rs z else _) = _
  rw [if_neg (by omega), if_neg (fun e => hz ⟨⟨hb, e.1⟩, e.2⟩)]
theorem nan_not {v : Nat} (h : ∃ s t, Ieee.double.read v = .nan s t) : ¬ Fnt v := by
  intro hf
  obtain ⟨m, k, h1, _⟩ := read_fin hf
  obtain ⟨s, t, h2⟩ := h
  rw [h1] at h2; cases h2
set_option maxHeartbeats 1000000 in
theorem power_calls (a b : Nat) (n : Int) (w : World) (ha : a < 18446744073709551616) (h : Wh b n) (hn : n.natAbs ≤ 1023) : Calls Tryz.prog 191 #[.float .f64 a, .float .f64 b] w (Pwd (pwr a n) w) := by
  have HB := Lib.hid h
  have HA := Lib.hid ha
  have HW := Lib.hid (show -9223372036854775808 < n ∧ n ≤ 9223372036854775807 by have := h.2.1; omega)
  obtain ⟨k, hk⟩ : ∃ k : Nat, n.natAbs = k := ⟨_, rfl⟩
  rw [hk] at hn
  have HK := Lib.hid hk
  have hkb := Lib.hid (show k < 1024 by omega)
  obtain ⟨tot, ht⟩ : ∃ tot, tms 10 k (some 4607182418800017408) (some a) = tot := ⟨_, rfl⟩
  have HT : Hid (tms 10 n.natAbs (some 4607182418800017408) (some a) = tot) := Lib.hid (by rw [hk]; exact ht)
  have HT' := Lib.hid ht
  clear h hk ht ha
  rcases Int.lt_or_le n 0 with h0 | h0
  · go_enter Tryz.func191, Tryz.ntmps191
    go_wp2_with (first | ((with_reducible refine (whole_yes _ _ _ HB.out).mono ?_); rintro e w' ⟨rfl, rfl⟩) | ((with_reducible refine (size_calls _ _ HW.out.1 HW.out.2).mono ?_); rintro e w' ⟨rfl, rfl⟩; rw [HK.out]))
    refine (times_calls _ _ _ HA.out hkb.out).mono ?_
    rintro e w' ⟨v, m, rfl, hv, rfl⟩
    rw [HT'.out] at hv
    have HV := Lib.hid hv
    clear hv
    go_wp2_with fail
    refine (result_calls _ _ HV.out.1).mono ?_
    rintro e w' ⟨rfl, rfl⟩
    by_cases hf : Fnt v
    · have hr := rs_fin hf
      rw [hr]
      have hs : tot = some v := by
        rcases HV.out.2 with h | h
        · exact h
        · exact absurd hf (nan_not h.2)
      have hzn := ze_num hf
      have hzv := @ze_val v
      by_cases hv0 : V v = 0
      · have hz0 : ze v = 0 := hzn.2 (V_eq_zero.1 (by rw [hzv, hv0]))
        rw [hz0]
        have HR : Hid (pwr a n = (0, 24)) := Lib.hid (pwr_off (by rw [HT.out, hs]) h0 (fun e => e.2 hv0) HV.out.1)
        clear hf hr hs hzn hzv hv0 hz0
        go_wp2_with ((with_reducible refine (div_one_zero _).mono ?_); rintro e w' ⟨rfl, rfl⟩)
        go_ret2
        exact ⟨ret_p HR.out, m, rfl⟩
      · have hze : ze v = v := if_neg (fun e => hv0 (V_eq_zero.2 e))
        rw [hze]
        obtain ⟨y, hy⟩ := div_some one_fin hf hv0
        have HR : Hid (pwr a n = rs y) := Lib.hid (pwr_down (by rw [HT.out, hs]) h0 hf hv0 hy)
        have HY : Hid (floatBits .quo .f64 4607182418800017408 v = some y) := Lib.hid hy
        have HF := Lib.hid hf
        have H0 := Lib.hid hv0
        clear hf hr hs hzn hzv hv0 hze hy
        go_wp2_with ((with_reducible refine (div_calls _ _ y _ HF.out H0.out HY.out).mono ?_); rintro e w' ⟨rfl, rfl⟩)
        go_ret2
        exact ⟨by rw [HR.out]; rfl, m, rfl⟩
    · have hr := rs_non HV.out.1 hf
      rw [hr]
      have HR : Hid (pwr a n = (0, 24)) := Lib.hid (by
        rcases HV.out.2 with h | h
        · exact pwr_off (by rw [HT.out, h]) h0 (fun e => hf e.1) HV.out.1
        · exact pwr_none (by rw [HT.out, h.1]))
      clear hf hr
      go_wp2
      go_ret2
      exact ⟨ret_p HR.out, m, rfl⟩
  · go_enter Tryz.func191, Tryz.ntmps191
    go_wp2_with (first | ((with_reducible refine (whole_yes _ _ _ HB.out).mono ?_); rintro e w' ⟨rfl, rfl⟩) | ((with_reducible refine (size_calls _ _ HW.out.1 HW.out.2).mono ?_); rintro e w' ⟨rfl, rfl⟩; rw [HK.out]))
    refine (times_calls _ _ _ HA.out hkb.out).mono ?_
    rintro e w' ⟨v, m, rfl, hv, rfl⟩
    rw [HT'.out] at hv
    have HV := Lib.hid hv
    have HR : Hid (pwr a n = rs v) := Lib.hid (by
      rcases hv.2 with h | h
      · exact pwr_up (by rw [HT.out, h]) h0
      · rw [rs_non hv.1 (nan_not h.2)]; exact pwr_none (by rw [HT.out, h.1]))
    clear hv
    go_wp2_with fail
    refine (result_calls _ _ HV.out.1).mono ?_
    rintro e w' ⟨rfl, rfl⟩
    go_wp2
    go_ret2
    exact ⟨by rw [HR.out]; rfl, m, rfl⟩
theorem n1023_fin : Fnt 4652209618980700160 ∧ Fnt 13875581655835475968 := ⟨⟨by decide, by decide⟩, ⟨by decide, by decide⟩⟩
theorem V_1023 : V 4652209618980700160 = 1023 * pw 1074 := by
  have h := ofInt_val 1023 (by decide)
  rw [show floatOfInt .f64 1023 = 4652209618980700160 by kernel_rfl] at h; exact h
theorem V_m1023 : V 13875581655835475968 = -1023 * pw 1074 := by
  have h := ofInt_val (-1023) (by decide)
  rw [show floatOfInt .f64 (-1023) = 13875581655835475968 by kernel_rfl] at h; exact h
theorem rpower_no (a b : Nat) (w : World) (hb : b < 18446744073709551616) (h : ∀ n, ¬ Wh b n) : Calls Tryz.prog 139 #[.float .f64 a, .float .f64 b] w (Pwd (0, 24) w) := by
  have HB := Lib.hid hb
  have hN : false = true ↔ ∃ n, Wh b n := Iff.intro (fun e => by cases e) (fun e => by obtain ⟨n, e⟩ := e; exact absurd e (h n))
  have HN := Lib.hid hN
  clear hN
  clear hb h
  go_enter Tryz.func139, Tryz.ntmps139
  go_wp2_with ((with_reducible refine (rwhole_calls _ _ HB.out false HN.out).mono ?_); rintro e w' ⟨rfl, rfl⟩)
  go_ret2
  exact ⟨rfl, 0, rfl⟩
theorem wh_lt {b : Nat} {n m : Int} {c : Nat} (h : Wh b n) (hc : Fnt c) (hv : V c = m * pw 1074) : (n < m → FloatKind.f64.format.order b c = some .lt) ∧ (n = m → FloatKind.f64.format.order b c = some .eq) ∧ (m < n → FloatKind.f64.format.order b c = some .gt) := by
  have hp : (0 : Int) < pw 1074 := by exact_mod_cast pw_pos 1074
  refine ⟨fun e => ord_lt h.1 hc ?_, fun e => ord_eq h.1 hc ?_, fun e => ord_gt h.1 hc ?_⟩ <;> rw [h.2.2, hv]
  · exact Int.mul_lt_mul_of_pos_right e hp
  · rw [e]
  · exact Int.mul_lt_mul_of_pos_right e hp
theorem rpower_much (a b : Nat) (n : Int) (w : World) (h : Wh b n) (hn : 1023 < n.natAbs) : Calls Tryz.prog 139 #[.float .f64 a, .float .f64 b] w (Pwd (0, 24) w) := by
  have HB := Lib.hid h.1.1
  have hN : true = true ↔ ∃ n, Wh b n := Iff.intro (fun _ => Exists.intro n h) (fun _ => rfl)
  have HN := Lib.hid hN
  clear hN
  have h1 := wh_lt h n1023_fin.1 V_1023
  have h2 := wh_lt h n1023_fin.2 V_m1023
  rcases Int.lt_or_le n 0 with h0 | h0
  · have h3 := h1.1 (by omega)
    have h4 := h2.1 (by omega)
    clear h h1 h2
    go_enter Tryz.func139, Tryz.ntmps139
    go_wp2_with ((with_reducible refine (rwhole_calls _ _ HB.out true HN.out).mono ?_); rintro e w' ⟨rfl, rfl⟩)
    go_ret2
    exact ⟨rfl, 0, rfl⟩
  · have h3 := h1.2.2 (by omega)
    clear h h1 h2
    go_enter Tryz.func139, Tryz.ntmps139
    go_wp2_with ((with_reducible refine (rwhole_calls _ _ HB.out true HN.out).mono ?_); rintro e w' ⟨rfl, rfl⟩)
    go_ret2
    exact ⟨rfl, 0, rfl⟩
set_option maxHeartbeats 2000000 in
theorem rpower_calls (a b : Nat) (n : Int) (w : World) (ha : a < 18446744073709551616) (h : Wh b n) (hn : n.natAbs ≤ 1023) : Calls Tryz.prog 139 #[.float .f64 a, .float .f64 b] w (Pwd (pwr a n) w) := by
  have HB := Lib.hid h.1.1
  have hN : true = true ↔ ∃ n, Wh b n := Iff.intro (fun _ => Exists.intro n h) (fun _ => rfl)
  have HN := Lib.hid hN
  have h1 := wh_lt h n1023_fin.1 V_1023
  have h2 := wh_lt h n1023_fin.2 V_m1023
  have h3 := wh_lt (m := 0) h fin_zero (by rw [V_zero, Int.zero_mul])
  have hi := wh_int b n h
  have hc : ∀ w, (convert 42 2 (.float .f64 b)).run Tryz.prog w = .ok (.int .i64 n) w := fun w => run_convert_float_int w 42 2 .f64 .i64 b n (by kernel_rfl) (by kernel_rfl) hi
  have HA : Hid (FV a (some a)) := Lib.hid ⟨ha, .inl rfl⟩
  have HW := Lib.hid (show -9223372036854775808 < n ∧ n ≤ 9223372036854775807 by have := h.2.1; omega)
  obtain ⟨k, hk⟩ : ∃ k : Nat, n.natAbs = k := ⟨_, rfl⟩
  rw [hk] at hn
  have HK := Lib.hid hk
  have hkb := Lib.hid (show k < 1024 by omega)
  obtain ⟨tot, ht⟩ : ∃ tot, tms 10 k (some 4607182418800017408) (some a) = tot := ⟨_, rfl⟩
  have HT : Hid (tms 10 n.natAbs (some 4607182418800017408) (some a) = tot) := Lib.hid (by rw [hk]; exact ht)
  have HT' := Lib.hid ht
  have o1 : FloatKind.f64.format.order b 4652209618980700160 = some .lt ∨ FloatKind.f64.format.order b 4652209618980700160 = some .eq := by
    rcases Int.lt_or_le n 1023 with e | e
    · exact .inl (h1.1 e)
    · exact .inr (h1.2.1 (by omega))
  have o2 : FloatKind.f64.format.order b 13875581655835475968 = some .gt ∨ FloatKind.f64.format.order b 13875581655835475968 = some .eq := by
    rcases Int.lt_or_le (-1023) n with e | e
    · exact .inl (h2.2.2 e)
    · exact .inr (h2.2.1 (by omega))
  have o3 : (n < 0 ∧ FloatKind.f64.format.order b 0 = some .lt) ∨ (0 ≤ n ∧ FloatKind.f64.format.order b 0 = some .eq) ∨ (0 ≤ n ∧ FloatKind.f64.format.order b 0 = some .gt) := by
    rcases Int.lt_trichotomy n 0 with e | e | e
    · exact .inl ⟨e, h3.1 e⟩
    · exact .inr (.inl ⟨by omega, h3.2.1 e⟩)
    · exact .inr (.inr ⟨by omega, h3.2.2 e⟩)
  clear h hk ht ha h1 h2 h3 hi hN
  rcases o1 with o1 | o1 <;> rcases o2 with o2 | o2
  all_goals
    go_enter Tryz.func139, Tryz.ntmps139
    go_wp2_with (first | ((with_reducible refine (rwhole_calls _ _ HB.out true HN.out).mono ?_); rintro e w' ⟨rfl, rfl⟩) | ((with_reducible refine (rsize_calls _ _ HW.out.1 HW.out.2).mono ?_); rintro e w' ⟨rfl, rfl⟩; rw [HK.out]))
    go_loopw [6, 7, 8] (fun u6 u7 u8 wr => ∃ nn kk X O : Nat, ∃ ox oo m, u6 = .int .i64 kk ∧ u7 = .float .f64 O ∧ u8 = .float .f64 X ∧ (kk = 0 ∨ FV X ox) ∧ FV O oo ∧ kk < 2 ^ nn ∧ kk < 1024 ∧ tms nn kk oo ox = tot ∧ wr = w.drewN m) (fun u6 _ _ _ => (intOf u6).toNat)
    case atStart => exact ⟨10, k, a, _, some a, _, 0, rfl, rfl, rfl, .inr HA.out, one_fv, hkb.out, hkb.out, HT'.out, rfl⟩
    case round =>
      obtain ⟨nn, kk, X, O, ox, oo, m, rfl, rfl, rfl, hX, hO, hlt, hkb, heq, rfl⟩ := hrel
      rcases Nat.eq_zero_or_pos kk with h0 | h0
      · subst h0
        have HV : Hid (FV O tot) := Lib.hid (by rw [← heq, tms_zero]; exact hO)
        have HVb := Lib.hid HV.out.1
        clear heq hX hO hlt
        rcases o3 with ⟨n0, o3⟩ | ⟨n0, o3⟩ | ⟨n0, o3⟩
        · by_cases hf : Fnt O
          · have hs : tot = some O := by
              rcases HV.out.2 with h | h
              · exact h
              · exact absurd hf (nan_not h.2)
            have HF := Lib.hid hf
            by_cases hv0 : V O = 0
            · have hz : FloatKind.f64.format.order O 0 = some .eq := ord_eq hf fin_zero (by rw [V_zero, hv0])
              have HR : Hid (pwr a n = (0, 24)) := Lib.hid (pwr_off (by rw [HT.out, hs]) n0 (fun e => e.2 hv0) HV.out.1)
              clear hf hs hv0
              go_wp2_with ((with_reducible refine (rfinite_fin _ _ HF.out).mono ?_); rintro e w' ⟨rfl, rfl⟩)
              go_ret2
              exact ⟨ret_p HR.out, m, rfl⟩
            · have hz : FloatKind.f64.format.order O 0 = some .lt ∨ FloatKind.f64.format.order O 0 = some .gt := ord_ne hf fin_zero (by rw [V_zero]; exact hv0)
              obtain ⟨y, hy⟩ := div_some one_fin hf hv0
              have HR : Hid (pwr a n = rs y) := Lib.hid (pwr_down (by rw [HT.out, hs]) n0 hf hv0 hy)
              have hop : ∀ t w, (binOp .quo t (.float .f64 4607182418800017408) (.float .f64 O)).run Tryz.prog w = .ok (.float .f64 y) w := fun t w => run_float_arith w .quo t .f64 _ _ _ hy
              have HY := Lib.hid (bits_lt (op := .quo) hy)
              clear hf hs hv0 hy
              rcases hz with hz | hz
              all_goals
                go_wp2_with (first | ((with_reducible refine (rfinite_fin _ _ HF.out).mono ?_); rintro e w' ⟨rfl, rfl⟩) | ((with_reducible refine (done_calls _ _ HY.out).mono ?_); rintro e w' ⟨rfl, rfl⟩))
                go_ret2
                exact ⟨by rw [HR.out]; rfl, m, rfl⟩
          · have HF := Lib.hid hf
            have HR : Hid (pwr a n = (0, 24)) := Lib.hid (by
              rcases HV.out.2 with h | h
              · exact pwr_off (by rw [HT.out, h]) n0 (fun e => hf e.1) HV.out.1
              · exact pwr_none (by rw [HT.out, h.1]))
            clear hf
            go_wp2_with ((with_reducible refine (rfinite_non _ _ HVb.out HF.out).mono ?_); rintro e w' ⟨rfl, rfl⟩)
            go_ret2
            exact ⟨ret_p HR.out, m, rfl⟩
        all_goals
          have HR : Hid (pwr a n = rs O) := Lib.hid (by
            rcases HV.out.2 with h | h
            · exact pwr_up (by rw [HT.out, h]) n0
            · rw [rs_non HV.out.1 (nan_not h.2)]; exact pwr_none (by rw [HT.out, h.1]))
          go_wp2_with ((with_reducible refine (done_calls _ _ HVb.out).mono ?_); rintro e w' ⟨rfl, rfl⟩)
          go_ret2
          exact ⟨by rw [HR.out]; rfl, m, rfl⟩
      · have hnn : nn ≠ 0 := by rintro rfl; simp at hlt; omega
        obtain ⟨n', rfl⟩ : ∃ n', nn = n' + 1 := ⟨nn - 1, by omega⟩
        have hlt' : Hid (kk / 2 < 2 ^ n') := Lib.hid (by rw [Nat.pow_succ] at hlt; omega)
        have heq' : tms n' (kk / 2) (if kk % 2 = 1 then fm oo ox else oo) (fm ox ox) = tot := by rw [← heq, tms, if_neg (c := kk = 0) (by omega)]
        have hX : FV X ox := by rcases hX with h | h; omega; exact h
        have HX := Lib.hid hX
        by_cases hodd : kk % 2 = 1
        · rw [if_pos hodd] at heq'
          have HQ := Lib.hid heq'
          have hodd' : ((kk : Int) % 2 == 1) = true := by simp; omega
          obtain ⟨z, q, hop, hz⟩ := mul_any Tryz.prog (w.drewN m) hO hX
          have HZ := Lib.hid hz
          by_cases h1 : kk = 1
          · subst h1
            clear heq heq' hodd hX hO hz hlt hnn hlt'
            go_wp2
            go_roundw
            case rel => exact ⟨n', 0, X, z, _, _, _, rfl, rfl, rfl, .inl rfl, HZ.out, Nat.two_pow_pos _, by decide, HQ.out, rfl⟩
            case measure => simp [intOf]
          · obtain ⟨x2, q2, hop2, hx2⟩ := mul_any Tryz.prog (w.drewN (m + q)) hX hX
            have HX2 := Lib.hid hx2
            have h1' : 1 < kk := by omega
            clear heq heq' hodd hX hO hz hx2 hlt hnn h1
            go_wp2
            go_roundw
            case rel => exact ⟨n', kk / 2, x2, z, _, _, _, by go_num, rfl, rfl, .inr HX2.out, HZ.out, hlt'.out, by omega, HQ.out, rfl⟩
            case measure => simp [intOf]; omega
        · rw [if_neg hodd] at heq'
          have HQ := Lib.hid heq'
          have hodd' : ((kk : Int) % 2 == 1) = false := by simp; omega
          have HO := Lib.hid hO
          have h1' : 1 < kk := by omega
          obtain ⟨x2, q2, hop2, hx2⟩ := mul_any Tryz.prog (w.drewN m) hX hX
          have HX2 := Lib.hid hx2
          clear heq heq' hodd hX hO hx2 hlt hnn
          go_wp2
          go_roundw
          case rel => exact ⟨n', kk / 2, x2, O, _, _, _, by go_num, rfl, rfl, .inr HX2.out, HO.out, hlt'.out, by omega, HQ.out, rfl⟩
          case measure => simp [intOf]; omega
end Go.Proofs.YtbacchbcanlciaaGreatDoor

namespace Go.Proofs.YtbacchbcanlciaaGreatDoor
set_option maxRecDepth 100000
open Go.RowKit Fl
set_option linter.unusedVariables false
theorem wh_of (n : Int) (h : n.natAbs ≤ 9007199254740992) : Wh (floatOfInt .f64 n) n := ⟨ofInt_fin n (by omega), h, ofInt_val n h⟩
theorem rwhole_yes (x : Nat) (n : Int) (w : World) (h : Wh x n) : Calls Tryz.prog 137 #[.float .f64 x] w fun e w' => e = .returned (.bool true) ∧ w = w' := rwhole_calls x w h.1.1 true (Iff.intro (fun _ => Exists.intro n h) (fun _ => rfl))
theorem rwhole_no (x : Nat) (w : World) (hx : x < 18446744073709551616) (h : ∀ n, ¬ Wh x n) : Calls Tryz.prog 137 #[.float .f64 x] w fun e w' => e = .returned (.bool false) ∧ w = w' := rwhole_calls x w hx false (Iff.intro (fun e => by cases e) (fun e => by obtain ⟨n, e⟩ := e; exact absurd e (h n)))
theorem num_zero : Num 0 := ⟨fin_zero, fun _ => rfl⟩
end Go.Proofs.YtbacchbcanlciaaGreatDoor

namespace Go.Proofs.YtbacchbcanlciaaGreatDoor
set_option maxRecDepth 100000
open Go.RowKit Fl
set_option linter.unusedVariables false
theorem pwr_num (a : Nat) (n : Int) (h : ∀ z, tms 10 n.natAbs (some 4607182418800017408) (some a) = some z → z < 18446744073709551616) : Num (pwr a n).1 := by
  unfold pwr
  split
  · exact num_zero
  · rename_i z hz
    split
    · exact rs_num z (h z hz)
    · split
      · rename_i h0
        obtain ⟨y, hy⟩ := div_some one_fin ⟨h z hz, h0.1⟩ h0.2
        rw [hy, Option.getD_some]
        exact rs_num y (bits_lt (op := .quo) hy)
      · exact num_zero
theorem tms_lt : ∀ (n k : Nat) (o x : Option Nat), (∀ z, o = some z → z < 18446744073709551616) → ∀ z, tms n k o x = some z → z < 18446744073709551616
  | 0, _, _, _, h, z, e => h z e
  | n + 1, k, o, x, h, z, e => by
    rw [tms] at e
    split at e
    · exact h z e
    · refine tms_lt n _ _ _ ?_ z e
      intro y hy
      split at hy
      · unfold fm at hy
        cases o with
        | none => cases hy
        | some a =>
          cases x with
          | none => cases hy
          | some b => exact bits_lt (op := .mul) hy
      · exact h y hy
theorem pwr_num' (a : Nat) (n : Int) : Num (pwr a n).1 := pwr_num a n fun z => tms_lt _ _ _ _ (fun z e => by cases e; decide) z
theorem rst_small {m n : Int} (h1 : m.natAbs ≤ 9007199254740992) (h2 : n.natAbs ≤ 9007199254740992) : (rst m n).natAbs ≤ 9007199254740992 := by
  unfold rst
  split
  · exact h2
  · rename_i h0
    have := tmod_bounds (b := n) h0
    split <;> omega
end Go.Proofs.YtbacchbcanlciaaGreatDoor

namespace Go.Proofs.YtbacchbcanlciaaGreatDoor
set_option maxRecDepth 100000
open Go.RowKit Fl
set_option linter.unusedVariables false
theorem addint_any (a b : Int) (w : World) (ha : sm a = true) (hb : sm b = true) (r : Bool) (hr : sm (a + b) = r) : Calls Tryz.prog 176 #[.int .i64 a, .int .i64 b] w fun e w' => e = .returned (.tuple #[.int .i64 (if r then a + b else 0), .bool r]) ∧ w = w' := by
  cases r
  · exact addint_no3 a b w ha hb hr
  · exact addint_yes a b w ha hb hr
theorem subint_any (a b : Int) (w : World) (ha : sm a = true) (hb : sm b = true) (r : Bool) (hr : sm (a - b) = r) : Calls Tryz.prog 177 #[.int .i64 a, .int .i64 b] w fun e w' => e = .returned (.tuple #[.int .i64 (if r then a - b else 0), .bool r]) ∧ w = w' := by
  cases r
  · exact subint_no3 a b w ha hb hr
  · exact subint_yes a b w ha hb hr
theorem mulint_all (a b : Int) (w : World) (ha : sm a = true) (hb : sm b = true) (r : Bool) (hr : pm a b = r) : Calls Tryz.prog 178 #[.int .i64 a, .int .i64 b] w fun e w' => e = .returned (.tuple #[.int .i64 (if r then a * b else 0), .bool r]) ∧ w = w' := by
  by_cases h0 : a = 0
  · subst h0
    rw [pm_zero] at hr
    subst hr
    have := mulint_zero b w hb
    simpa using this
  · exact mulint_any a b w ha hb h0 r hr
theorem sgn_val (y : Int) (t : Nat) (s : Bool) (ht : 0 < t) : (if (if y * (t : Int) = 0 then s else decide (y * (t : Int) < 0)) = true then -((y.natAbs * t : Nat) : Int) else ((y.natAbs * t : Nat) : Int)) = y * t := by
  rcases Int.lt_trichotomy y 0 with h | h | h
  · obtain ⟨m, rfl⟩ : ∃ m : Nat, y = -(m : Int) := ⟨y.natAbs, by omega⟩
    have h1 : -(m : Int) * t < 0 := Int.mul_neg_of_neg_of_pos h (by omega)
    rw [if_neg (c := -(m : Int) * t = 0) (by omega), if_pos (by simpa using h1)]
    rw [Int.natAbs_neg, Int.natAbs_natCast, Int.neg_mul]; simp
  · subst h; simp
  · obtain ⟨m, rfl⟩ : ∃ m : Nat, y = (m : Int) := ⟨y.natAbs, by omega⟩
    have h1 : 0 < (m : Int) * t := Int.mul_pos h (by omega)
    rw [if_neg (c := (m : Int) * t = 0) (by omega), if_neg (by simp only [decide_eq_true_eq]; omega)]
    simp
theorem prod_val (a b : Int) (t : Nat) : (if (decide (a < 0) ^^ decide (b < 0)) = true then -((a.natAbs * b.natAbs * t : Nat) : Int) else ((a.natAbs * b.natAbs * t : Nat) : Int)) = a * b * t := by
  by_cases ha : a < 0
  · obtain ⟨m, rfl⟩ : ∃ m : Nat, a = -(m : Int) := ⟨a.natAbs, by omega⟩
    by_cases hb : b < 0
    · obtain ⟨n, rfl⟩ : ∃ n : Nat, b = -(n : Int) := ⟨b.natAbs, by omega⟩
      rw [decide_eq_true ha, decide_eq_true hb]; simp [Int.neg_mul, Int.mul_neg]
    · obtain ⟨n, rfl⟩ : ∃ n : Nat, b = (n : Int) := ⟨b.natAbs, by omega⟩
      rw [decide_eq_true ha, decide_eq_false hb]; simp [Int.neg_mul]
  · obtain ⟨m, rfl⟩ : ∃ m : Nat, a = (m : Int) := ⟨a.natAbs, by omega⟩
    by_cases hb : b < 0
    · obtain ⟨n, rfl⟩ : ∃ n : Nat, b = -(n : Int) := ⟨b.natAbs, by omega⟩
      rw [decide_eq_false ha, decide_eq_true hb]; simp [Int.neg_mul, Int.mul_neg]
    · obtain ⟨n, rfl⟩ : ∃ n : Nat, b = (n : Int) := ⟨b.natAbs, by omega⟩
      rw [decide_eq_false ha, decide_eq_false hb]; simp
theorem whole_sum {a b : Int} (ha : a.natAbs ≤ 9007199254740992) (hb : b.natAbs ≤ 9007199254740992) : ∃ z, Ieee.double.add (floatOfInt .f64 a) (floatOfInt .f64 b) = some z ∧ Fnt z ∧ ((a + b).natAbs ≤ 9007199254740992 → V z = (a + b) * pw 1074) := by
  have fa := ofInt_fin a (by omega)
  have fb := ofInt_fin b (by omega)
  have e := add_fin fa fb
  have ev : V (floatOfInt .f64 a) + V (floatOfInt .f64 b) = (a + b) * pw 1074 := by rw [ofInt_val a ha, ofInt_val b hb, Int.add_mul]
  rw [ev, Int.natAbs_mul, Int.natAbs_natCast, ← nearest_pw _ _ 0 1074 (by decide)] at e
  refine ⟨_, e, nearest_small _ _ _ ?_, fun h => ?_⟩
  · by_cases hz : (a + b).natAbs = 0
    · rw [hz]; decide
    · have := (Nat.log2_lt (k := 64) hz).2 (by omega)
      omega
  · rw [(nearest_whole _ _ h).2]
    exact sgn_val (a + b) (pw 1074) _ (pw_pos _)
theorem whole_diff {a b : Int} (ha : a.natAbs ≤ 9007199254740992) (hb : b.natAbs ≤ 9007199254740992) : ∃ z, Ieee.double.sub (floatOfInt .f64 a) (floatOfInt .f64 b) = some z ∧ Fnt z ∧ ((a - b).natAbs ≤ 9007199254740992 → V z = (a - b) * pw 1074) := by
  have fa := ofInt_fin a (by omega)
  have fb := ofInt_fin b (by omega)
  have e := sub_fin fa fb
  have ev : V (floatOfInt .f64 a) - V (floatOfInt .f64 b) = (a - b) * pw 1074 := by rw [ofInt_val a ha, ofInt_val b hb, Int.sub_mul]
  rw [ev, Int.natAbs_mul, Int.natAbs_natCast, ← nearest_pw _ _ 0 1074 (by decide)] at e
  refine ⟨_, e, nearest_small _ _ _ ?_, fun h => ?_⟩
  · by_cases hz : (a - b).natAbs = 0
    · rw [hz]; decide
    · have := (Nat.log2_lt (k := 64) hz).2 (by omega)
      omega
  · rw [(nearest_whole _ _ h).2]
    exact sgn_val (a - b) (pw 1074) _ (pw_pos _)
theorem nearest_pw2 (s : Bool) (m k : Nat) (p : Int) : Ieee.double.nearest s (m * pw k) (p - k) = Ieee.double.nearest s m p := nearest_scale Ieee.double s m k p
theorem whole_prod {a b : Int} (ha : a.natAbs ≤ 9007199254740992) (hb : b.natAbs ≤ 9007199254740992) : ∃ z, Ieee.double.mul (floatOfInt .f64 a) (floatOfInt .f64 b) = some z ∧ Fnt z ∧ ((a * b).natAbs ≤ 9007199254740992 → V z = (a * b) * pw 1074) := by
  have fa := ofInt_fin a (by omega)
  have fb := ofInt_fin b (by omega)
  have e := mul_fin fa fb
  have hm : (V (floatOfInt .f64 a)).natAbs * (V (floatOfInt .f64 b)).natAbs = (a.natAbs * b.natAbs) * pw 2148 := by
    rw [ofInt_val a ha, ofInt_val b hb, Int.natAbs_mul, Int.natAbs_mul, Int.natAbs_natCast, show pw 2148 = pw 1074 * pw 1074 from pw_add 1074 1074]
    generalize pw 1074 = t
    simp only [Nat.mul_assoc, Nat.mul_left_comm, Nat.mul_comm]
  rw [hm, show (-2148 : Int) = 0 - (2148 : Nat) by decide, nearest_pw2] at e
  have hbig : a.natAbs * b.natAbs ≤ 9007199254740992 * 9007199254740992 := Nat.mul_le_mul ha hb
  have sa : sg (floatOfInt .f64 a) = decide (a < 0) := nearest_sg _ _ _
  have sb : sg (floatOfInt .f64 b) = decide (b < 0) := nearest_sg _ _ _
  refine ⟨_, e, nearest_small _ _ _ ?_, fun h => ?_⟩
  · by_cases hz : a.natAbs * b.natAbs = 0
    · rw [hz]; decide
    · have := (Nat.log2_lt (k := 107) hz).2 (by omega)
      omega
  · rw [Int.natAbs_mul] at h
    rw [(nearest_whole _ _ h).2, sa, sb]
    exact prod_val a b (pw 1074)
end Go.Proofs.YtbacchbcanlciaaGreatDoor

/- Merged: Cp, BvM, BvN, BvA, Fr, BvB, BvI, BvJ, BvL, BvO, BvP, BvD, BvK, Ap, BvH. -/
import Derived.Below
import Derived.Deep.RegionHeld
import Derived.Lib.BitFns
import Derived.Lib.TrailingZeros
import Derived.Test.YtbfcdpabjailcaaGreatDoorRows
import Derived.WalkKit
import Derived.WalkSpells
import Derived.WalkLawsBesides
import Derived.Lib.Hide
import Derived.Laws.BitsAllLaws
import Derived.Laws.Bits64b
import Derived.Laws.Bits128
import Derived.ProofKit
import Derived.OpenShut
import Derived.SliceStrings
import Derived.Deep.QuietTactic
import Derived.BigQuiet
import Derived.StillTailTactics
import Derived.Deep.RegionWith
import Derived.Deep.LoopGhost
import Derived.Lib.SliceRun
import Derived.Deep.RegionLaw
/- Short forms for long walks: a fact carried to a later world; an operation of a drawn region taken; the only one that may come up. -/
namespace Go.Proofs.YtbfcdpabjailcaaGreatDoor
set_option maxRecDepth 100000
open Go.RowKit
set_option linter.unusedVariables false

section
variable {P : Program} {ops : Array Oper} {Q : Exit → Act → World → Prop} {md : Region.Mode} {S : World → Prop}
end
end Go.Proofs.YtbfcdpabjailcaaGreatDoor

/- Words of booleans: plain mathematics, no program. -/
namespace Go.Proofs.YtbfcdpabjailcaaGreatDoor
set_option maxRecDepth 100000

/-! ## Booleans packed -/
def packL : List Bool → Nat
  | [] => 0
  | b :: l => b.toNat + 2 * packL l
theorem packL_lt : ∀ l : List Bool, packL l < 2 ^ l.length
  | [] => by simp [packL]
  | b :: l => by
    have := packL_lt l
    have hb : b.toNat ≤ 1 := by cases b <;> simp
    rw [packL, List.length_cons, Nat.pow_succ]; omega
theorem testBit_cons (b : Bool) (m : Nat) : ∀ j, (b.toNat + 2 * m).testBit j = if j = 0 then b else m.testBit (j - 1)
  | 0 => by
    rw [Nat.testBit_zero, if_pos rfl]
    have : (b.toNat + 2 * m) % 2 = b.toNat := by cases b <;> simp <;> omega
    rw [this]; cases b <;> rfl
  | j + 1 => by
    rw [Nat.testBit_succ]
    have : (b.toNat + 2 * m) / 2 = m := by cases b <;> simp; omega
    rw [this]; simp
theorem testBit_packL : ∀ (l : List Bool) (j : Nat), (packL l).testBit j = l[j]?.getD false
  | [], j => by simp [packL]
  | b :: l, 0 => by rw [packL, testBit_cons]; simp
  | b :: l, j + 1 => by rw [packL, testBit_cons, if_neg (by omega)]; simp [testBit_packL l j]

/-- Word i of a sequence of booleans. -/
def bw (F : Nat → Bool) (i : Nat) : Nat := packL ((List.range 64).map fun j => F (64 * i + j))
theorem bw_lt (F : Nat → Bool) (i : Nat) : bw F i < 18446744073709551616 := by
  have := packL_lt ((List.range 64).map fun j => F (64 * i + j))
  rw [List.length_map, List.length_range] at this; exact this
theorem testBit_bw (F : Nat → Bool) (i j : Nat) : (bw F i).testBit j = (decide (j < 64) && F (64 * i + j)) := by
  rw [bw, testBit_packL]
  by_cases h : j < 64 <;> simp [h]
theorem bw_ext (F : Nat → Bool) (i n : Nat) (hn : n < 18446744073709551616) (h : ∀ j, j < 64 → n.testBit j = F (64 * i + j)) : n = bw F i := by
  apply Nat.eq_of_testBit_eq
  intro j
  rw [testBit_bw]
  by_cases hj : j < 64
  · simp [hj, h j hj]
  · rw [Nat.testBit_lt_two_pow (Nat.lt_of_lt_of_le (m := 2 ^ 64) hn (Nat.pow_le_pow_right (by omega) (by omega)))]; simp [hj]
theorem bw_congr {F G : Nat → Bool} {i : Nat} (h : ∀ j, j < 64 → F (64 * i + j) = G (64 * i + j)) : bw F i = bw G i :=
  bw_ext G i _ (bw_lt F i) fun j hj => by rw [testBit_bw, h j hj]; simp [hj]

/-- Boolean k of a list; false, where there is none. -/
def sq (l : List Bool) (k : Nat) : Bool := l[k]?.getD false
theorem sq_out {l : List Bool} {k : Nat} (h : l.length ≤ k) : sq l k = false := by simp [sq, h]
/-- W words of a sequence. -/
def bws (F : Nat → Bool) (W : Nat) : List Nat := (List.range W).map (bw F)
theorem bws_get (F : Nat → Bool) (W i : Nat) (h : i < (bws F W).length) : (bws F W)[i] = bw F i := by simp [bws]
/-- The words of a list. -/
def words (l : List Bool) : List Nat := bws (sq l) ((l.length + 63) / 64)
def part (f : Nat → Nat) (W k : Nat) : List Nat := (List.range W).map fun i => if i < k then f i else 0
theorem bw_hit (l : List Bool) (k i : Nat) (hk : k < l.length) (hb : l[k] = true) : bw (sq (l.take (k + 1))) i = if i = k / 64 then bw (sq (l.take k)) i ||| 2 ^ (k % 64) else bw (sq (l.take k)) i := by
  have hs : ∀ m, sq (l.take (k + 1)) m = (sq (l.take k) m || decide (m = k)) := by
    intro m
    simp only [sq, List.getElem?_take]
    by_cases h1 : m < k
    · rw [if_pos (by omega), if_pos h1]; simp [show m ≠ k by omega]
    · by_cases h2 : m = k
      · subst h2; simp [hk, hb]
      · rw [if_neg (by omega), if_neg h1]; simp [h2]
  by_cases e : i = k / 64
  · rw [if_pos e]
    symm
    apply bw_ext
    · exact Nat.or_lt_two_pow (n := 64) (bw_lt _ _) (Nat.pow_lt_pow_right (by decide) (Nat.mod_lt _ (by decide)))
    · intro j hj
      rw [Nat.testBit_or, testBit_bw, hs, Nat.testBit_two_pow]
      simp only [hj, decide_true, Bool.true_and]
      congr 1
      rw [decide_eq_decide]; omega
  · rw [if_neg e]
    apply bw_congr
    intro j hj
    rw [hs, decide_eq_false (by omega), Bool.or_false]
theorem bw_miss (l : List Bool) (k i : Nat) (hk : k < l.length) (hb : l[k] = false) : bw (sq (l.take (k + 1))) i = bw (sq (l.take k)) i := by
  apply bw_congr
  intro j hj
  generalize 64 * i + j = m
  simp only [sq, List.getElem?_take]
  by_cases h1 : m < k
  · rw [if_pos (by omega), if_pos h1]
  · by_cases h2 : m = k
    · subst h2; simp [hk, hb]
    · rw [if_neg (by omega), if_neg h1]
theorem bws_hit (l : List Bool) (W k : Nat) (hk : k < l.length) (hb : l[k] = true) : (bws (sq (l.take k)) W).set (k / 64) (bw (sq (l.take k)) (k / 64) ||| 2 ^ (k % 64)) = bws (sq (l.take (k + 1))) W := by
  apply List.ext_getElem (by simp [bws])
  intro i h1 h2
  rw [List.getElem_set]
  simp only [bws_get, bw_hit l k i hk hb]
  by_cases e : k / 64 = i
  · rw [if_pos e, if_pos e.symm, e]
  · rw [if_neg e, if_neg (fun h => e h.symm)]
theorem bws_miss (l : List Bool) (W k : Nat) (hk : k < l.length) (hb : l[k] = false) : bws (sq (l.take k)) W = bws (sq (l.take (k + 1))) W := by
  apply List.ext_getElem (by simp [bws])
  intro i h1 h2
  simp only [bws_get, bw_miss l k i hk hb]

/-! ## Negation, tables -/
def cnt (F : Nat → Bool) : Nat → Nat
  | 0 => 0
  | n + 1 => cnt F n + (F n).toNat
theorem cnt_add (F : Nat → Bool) (a : Nat) : ∀ m, cnt F (a + m) = cnt F a + cnt (fun t => F (a + t)) m
  | 0 => by simp [cnt]
  | m + 1 => by rw [← Nat.add_assoc, cnt, cnt_add F a m, cnt, Nat.add_assoc]
theorem cnt_congr {F G : Nat → Bool} : ∀ n, (∀ k, k < n → F k = G k) → cnt F n = cnt G n
  | 0, _ => rfl
  | n + 1, h => by rw [cnt, cnt, cnt_congr n fun k hk => h k (by omega), h n (by omega)]
theorem cnt_cons (F : Nat → Bool) : ∀ n, cnt F (n + 1) = (F 0).toNat + cnt (fun k => F (k + 1)) n
  | 0 => by simp [cnt]
  | n + 1 => by rw [cnt, cnt_cons F n, cnt, Nat.add_assoc]
theorem cnt_le (F : Nat → Bool) : ∀ n, cnt F n ≤ n
  | 0 => Nat.le_refl _
  | n + 1 => by have := cnt_le F n; have : (F n).toNat ≤ 1 := by cases F n <;> simp
                rw [cnt]; omega
theorem popAux_cnt : ∀ (n x : Nat), Lib.popAux n x = cnt x.testBit n
  | 0, x => rfl
  | n + 1, x => by
    rw [Lib.popAux, popAux_cnt n (x / 2), cnt_cons]
    congr 1
    · rw [Nat.testBit_zero]; have : x % 2 = 0 ∨ x % 2 = 1 := by omega
      rcases this with h | h <;> simp [h]
    · exact cnt_congr _ fun k _ => (Nat.testBit_succ x k).symm
theorem popAux_add (m : Nat) : ∀ (n x : Nat), Lib.popAux (n + m) x = Lib.popAux n (x % 2 ^ n) + Lib.popAux m (x / 2 ^ n)
  | 0, x => by simp [Lib.popAux]
  | n + 1, x => by
    rw [show n + 1 + m = (n + m) + 1 by omega, Lib.popAux, popAux_add m n (x / 2), Lib.popAux, Nat.div_div_eq_div_mul, Nat.pow_succ, Nat.mul_comm 2, Nat.mod_mul_left_mod, Nat.add_assoc]
    congr 3
    rw [Nat.mul_comm (2 ^ n) 2, Nat.mod_mul_right_div_self]
end Go.Proofs.YtbfcdpabjailcaaGreatDoor

/- The number of ones of a word, summed by pairs, fours, bytes: plain mathematics. -/
namespace Go.Proofs.YtbfcdpabjailcaaGreatDoor
set_option maxRecDepth 100000
set_option linter.unusedVariables false

theorem testBit_split (x0 x1 : Nat) (h : x0 < 256) (j : Nat) : (x0 + 256 * x1).testBit j = if j < 8 then x0.testBit j else x1.testBit (j - 8) := by
  have := Nat.testBit_two_pow_mul_add x1 (i := 8) (b := x0) h j
  rwa [Nat.add_comm, show (2 : Nat) ^ 8 = 256 from rfl] at this
theorem and_split (x0 x1 m0 m1 : Nat) (h : x0 < 256) (hm : m0 < 256) : (x0 + 256 * x1) &&& (m0 + 256 * m1) = (x0 &&& m0) + 256 * (x1 &&& m1) := by
  apply Nat.eq_of_testBit_eq; intro j
  rw [Nat.testBit_and, testBit_split _ _ h, testBit_split _ _ hm, testBit_split _ _ (Nat.lt_of_le_of_lt Nat.and_le_left h)]
  split <;> rw [Nat.testBit_and]

/-- Eight bytes. -/
def byt (a b c d e f g h : Nat) : Nat := a + 256 * (b + 256 * (c + 256 * (d + 256 * (e + 256 * (f + 256 * (g + 256 * h))))))
theorem and_byt (a b c d e f g h m : Nat) (ha : a < 256) (hb : b < 256) (hc : c < 256) (hd : d < 256) (he : e < 256) (hf : f < 256) (hg : g < 256) (hm : m < 256) :
    byt a b c d e f g h &&& byt m m m m m m m m = byt (a &&& m) (b &&& m) (c &&& m) (d &&& m) (e &&& m) (f &&& m) (g &&& m) (h &&& m) := by
  unfold byt
  rw [and_split _ _ _ _ ha hm, and_split _ _ _ _ hb hm, and_split _ _ _ _ hc hm, and_split _ _ _ _ hd hm, and_split _ _ _ _ he hm, and_split _ _ _ _ hf hm, and_split _ _ _ _ hg hm]
theorem byt_div (a b c d e f g h s q : Nat) (hsq : s * q = 256) (ha : a < 256) (hb : b < 256) (hc : c < 256) (hd : d < 256) (he : e < 256) (hf : f < 256) (hg : g < 256) (hq : q = 128 ∨ q = 64 ∨ q = 16) :
    byt a b c d e f g h / s = byt (a / s + q * (b % s)) (b / s + q * (c % s)) (c / s + q * (d % s)) (d / s + q * (e % s)) (e / s + q * (f % s)) (f / s + q * (g % s)) (g / s + q * (h % s)) (h / s) := by
  unfold byt
  rcases hq with rfl | rfl | rfl
  · obtain rfl : s = 2 := by omega
    omega
  · obtain rfl : s = 4 := by omega
    omega
  · obtain rfl : s = 16 := by omega
    omega
theorem s1 : ∀ (a : Fin 256) (b : Fin 2), (a.val / 2 + 128 * b.val) &&& 85 = (a.val / 2) &&& 85 := by decide +kernel
theorem s2 : ∀ (a : Fin 256) (b : Fin 4), (a.val / 4 + 64 * b.val) &&& 51 = (a.val / 4) &&& 51 := by decide +kernel
def p1 (a : Nat) : Nat := ((a / 2) &&& 85) + (a &&& 85)
def p2 (a : Nat) : Nat := ((a / 4) &&& 51) + (a &&& 51)
theorem p1_le : ∀ a : Fin 256, p1 a.val ≤ 170 := by decide +kernel
theorem p2_le : ∀ a : Fin 256, p2 (p1 a.val) ≤ 68 ∧ p2 (p1 a.val) % 16 ≤ 4 := by decide +kernel
theorem p3 : ∀ (a : Fin 256) (b : Fin 5), (p2 (p1 a.val) / 16 + 16 * b.val + p2 (p1 a.val)) &&& 15 = Lib.popAux 8 a.val := by decide +kernel
theorem pop8_le : ∀ a : Fin 256, Lib.popAux 8 a.val ≤ 8 := by decide +kernel
theorem step1 (a b : Nat) (ha : a < 256) : (a / 2 + 128 * (b % 2)) &&& 85 = (a / 2) &&& 85 := s1 ⟨a, ha⟩ ⟨b % 2, Nat.mod_lt _ (by decide)⟩
theorem step2 (a b : Nat) (ha : a < 256) : (a / 4 + 64 * (b % 4)) &&& 51 = (a / 4) &&& 51 := s2 ⟨a, ha⟩ ⟨b % 4, Nat.mod_lt _ (by decide)⟩
theorem byt_add (a b c d e f g h a' b' c' d' e' f' g' h' : Nat) : byt a b c d e f g h + byt a' b' c' d' e' f' g' h' = byt (a + a') (b + b') (c + c') (d + d') (e + e') (f + f') (g + g') (h + h') := by
  unfold byt; omega
theorem byt_lt (a b c d e f g h : Nat) (ha : a < 256) (hb : b < 256) (hc : c < 256) (hd : d < 256) (he : e < 256) (hf : f < 256) (hg : g < 256) (hh : h < 256) : byt a b c d e f g h < 18446744073709551616 := by
  unfold byt; omega

/-- What the library's text reckons. -/
def swar1 (x : Nat) : Nat := ((x / 2) &&& 6148914691236517205) + (x &&& 6148914691236517205)
def swar2 (x : Nat) : Nat := ((x / 4) &&& 3689348814741910323) + (x &&& 3689348814741910323)
def swar3 (x : Nat) : Nat := (x / 16 + x) &&& 1085102592571150095
theorem m85 : 6148914691236517205 = byt 85 85 85 85 85 85 85 85 := rfl
theorem m51 : 3689348814741910323 = byt 51 51 51 51 51 51 51 51 := rfl
theorem m15 : 1085102592571150095 = byt 15 15 15 15 15 15 15 15 := rfl
theorem swar1_byt (a b c d e f g h : Nat) (ha : a < 256) (hb : b < 256) (hc : c < 256) (hd : d < 256) (he : e < 256) (hf : f < 256) (hg : g < 256) (hh : h < 256) :
    swar1 (byt a b c d e f g h) = byt (p1 a) (p1 b) (p1 c) (p1 d) (p1 e) (p1 f) (p1 g) (p1 h) := by
  unfold swar1
  rw [m85, and_byt a b c d e f g h 85 ha hb hc hd he hf hg (by decide), byt_div a b c d e f g h 2 128 rfl ha hb hc hd he hf hg (by omega),
    and_byt _ _ _ _ _ _ _ _ 85 (by omega) (by omega) (by omega) (by omega) (by omega) (by omega) (by omega) (by decide),
    step1 a b ha, step1 b c hb, step1 c d hc, step1 d e hd, step1 e f he, step1 f g hf, step1 g h hg, byt_add]
  rfl
theorem swar2_byt (a b c d e f g h : Nat) (ha : a < 256) (hb : b < 256) (hc : c < 256) (hd : d < 256) (he : e < 256) (hf : f < 256) (hg : g < 256) (hh : h < 256) :
    swar2 (byt a b c d e f g h) = byt (p2 a) (p2 b) (p2 c) (p2 d) (p2 e) (p2 f) (p2 g) (p2 h) := by
  unfold swar2
  rw [m51, and_byt a b c d e f g h 51 ha hb hc hd he hf hg (by decide), byt_div a b c d e f g h 4 64 rfl ha hb hc hd he hf hg (by omega),
    and_byt _ _ _ _ _ _ _ _ 51 (by omega) (by omega) (by omega) (by omega) (by omega) (by omega) (by omega) (by decide),
    step2 a b ha, step2 b c hb, step2 c d hc, step2 d e hd, step2 e f he, step2 f g hf, step2 g h hg, byt_add]
  rfl
theorem p3' (a b : Nat) (ha : a < 256) (hb : b < 256) : (p2 (p1 a) / 16 + 16 * (p2 (p1 b) % 16) + p2 (p1 a)) &&& 15 = Lib.popAux 8 a :=
  p3 ⟨a, ha⟩ ⟨p2 (p1 b) % 16, Nat.lt_succ_of_le (p2_le ⟨b, hb⟩).2⟩
theorem p3'' (a : Nat) (ha : a < 256) : (p2 (p1 a) / 16 + p2 (p1 a)) &&& 15 = Lib.popAux 8 a := p3 ⟨a, ha⟩ ⟨0, by decide⟩
theorem p2_le' (a : Nat) (ha : a < 256) : p2 (p1 a) ≤ 68 ∧ p2 (p1 a) % 16 ≤ 4 := p2_le ⟨a, ha⟩
theorem p1_lt (a : Nat) (ha : a < 256) : p1 a < 256 := Nat.lt_of_le_of_lt (p1_le ⟨a, ha⟩) (by decide)
theorem swar3_byt (a b c d e f g h : Nat) (ha : a < 256) (hb : b < 256) (hc : c < 256) (hd : d < 256) (he : e < 256) (hf : f < 256) (hg : g < 256) (hh : h < 256) :
    swar3 (swar2 (swar1 (byt a b c d e f g h))) = byt (Lib.popAux 8 a) (Lib.popAux 8 b) (Lib.popAux 8 c) (Lib.popAux 8 d) (Lib.popAux 8 e) (Lib.popAux 8 f) (Lib.popAux 8 g) (Lib.popAux 8 h) := by
  rw [swar1_byt a b c d e f g h ha hb hc hd he hf hg hh, swar2_byt _ _ _ _ _ _ _ _ (p1_lt a ha) (p1_lt b hb) (p1_lt c hc) (p1_lt d hd) (p1_lt e he) (p1_lt f hf) (p1_lt g hg) (p1_lt h hh)]
  have ka := p2_le' a ha; have kb := p2_le' b hb; have kc := p2_le' c hc; have kd := p2_le' d hd
  have ke := p2_le' e he; have kf := p2_le' f hf; have kg := p2_le' g hg; have kh := p2_le' h hh
  unfold swar3
  rw [m15, byt_div _ _ _ _ _ _ _ _ 16 16 rfl (by omega) (by omega) (by omega) (by omega) (by omega) (by omega) (by omega) (by omega), byt_add,
    and_byt _ _ _ _ _ _ _ _ 15 (by omega) (by omega) (by omega) (by omega) (by omega) (by omega) (by omega) (by decide),
    p3' a b ha hb, p3' b c hb hc, p3' c d hc hd, p3' d e hd he, p3' e f he hf, p3' f g hf hg, p3' g h hg hh, p3'' h hh]
def swar4 (x : Nat) : Nat := x + x / 256
def swar5 (x : Nat) : Nat := x + x / 65536
def swar6 (x : Nat) : Nat := x + x / 4294967296
theorem fold_byt (a b c d e f g h : Nat) (ha : a ≤ 8) (hb : b ≤ 8) (hc : c ≤ 8) (hd : d ≤ 8) (he : e ≤ 8) (hf : f ≤ 8) (hg : g ≤ 8) (hh : h ≤ 8) :
    swar6 (swar5 (swar4 (byt a b c d e f g h))) % 128 = a + b + c + d + e + f + g + h := by
  have e4 : swar4 (byt a b c d e f g h) = byt (a + b) (b + c) (c + d) (d + e) (e + f) (f + g) (g + h) h := by unfold swar4 byt; omega
  have e5 : swar5 (byt (a + b) (b + c) (c + d) (d + e) (e + f) (f + g) (g + h) h) = byt (a + b + (c + d)) (b + c + (d + e)) (c + d + (e + f)) (d + e + (f + g)) (e + f + (g + h)) (f + g + h) (g + h) h := by unfold swar5 byt; omega
  have e6 : byt (a + b + (c + d)) (b + c + (d + e)) (c + d + (e + f)) (d + e + (f + g)) (e + f + (g + h)) (f + g + h) (g + h) h / 4294967296 = (e + f + (g + h)) + 256 * ((f + g + h) + 256 * ((g + h) + 256 * h)) := by unfold byt; omega
  rw [e4, e5]; unfold swar6; rw [e6]; unfold byt
  generalize b + c + (d + e) + 256 * (c + d + (e + f) + 256 * (d + e + (f + g) + 256 * (e + f + (g + h) + 256 * (f + g + h + 256 * (g + h + 256 * h))))) = R
  generalize f + g + h + 256 * (g + h + 256 * h) = S
  omega
theorem eight (x : Nat) (h : x < 18446744073709551616) : ∃ a b c d e f g k, a < 256 ∧ b < 256 ∧ c < 256 ∧ d < 256 ∧ e < 256 ∧ f < 256 ∧ g < 256 ∧ k < 256 ∧ x = byt a b c d e f g k := by
  refine ⟨x % 256, x / 256 % 256, x / 65536 % 256, x / 16777216 % 256, x / 4294967296 % 256, x / 1099511627776 % 256, x / 281474976710656 % 256, x / 72057594037927936, ?_⟩
  unfold byt
  omega
theorem pop_byt (a b c d e f g h : Nat) (ha : a < 256) (hb : b < 256) (hc : c < 256) (hd : d < 256) (he : e < 256) (hf : f < 256) (hg : g < 256) :
    Lib.popAux 64 (byt a b c d e f g h) = Lib.popAux 8 a + Lib.popAux 8 b + Lib.popAux 8 c + Lib.popAux 8 d + Lib.popAux 8 e + Lib.popAux 8 f + Lib.popAux 8 g + Lib.popAux 8 h := by
  have st : ∀ m x y, x < 256 → Lib.popAux (8 + m) (x + 256 * y) = Lib.popAux 8 x + Lib.popAux m y := by
    intro m x y hx
    rw [popAux_add m 8, show (x + 256 * y) % 2 ^ 8 = x by omega, show (x + 256 * y) / 2 ^ 8 = y by omega]
  unfold byt
  rw [show 64 = 8 + (8 + (8 + (8 + (8 + (8 + (8 + 8)))))) from rfl, st _ _ _ ha, st _ _ _ hb, st _ _ _ hc, st _ _ _ hd, st _ _ _ he, st _ _ _ hf, st _ _ _ hg]
  omega
theorem popAux8_le (a : Nat) (h : a < 256) : Lib.popAux 8 a ≤ 8 := pop8_le ⟨a, h⟩
/-- What the library's text reckons is the number of ones; no sum wraps. -/
theorem swar_all (x : Nat) (hx : x < 18446744073709551616) :
    swar1 x < 18446744073709551616 ∧ swar2 (swar1 x) < 18446744073709551616 ∧ swar2 (swar1 x) / 16 + swar2 (swar1 x) < 18446744073709551616 ∧ swar3 (swar2 (swar1 x)) < 18446744073709551616 ∧
    swar4 (swar3 (swar2 (swar1 x))) < 18446744073709551616 ∧ swar5 (swar4 (swar3 (swar2 (swar1 x)))) < 18446744073709551616 ∧ swar6 (swar5 (swar4 (swar3 (swar2 (swar1 x))))) < 9223372036854775808 ∧
    swar6 (swar5 (swar4 (swar3 (swar2 (swar1 x))))) % 128 = cnt x.testBit 64 := by
  obtain ⟨a, b, c, d, e, f, g, h, ha, hb, hc, hd, he, hf, hg, hh, rfl⟩ := eight x hx
  rw [← popAux_cnt, pop_byt a b c d e f g h ha hb hc hd he hf hg, swar3_byt a b c d e f g h ha hb hc hd he hf hg hh]
  rw [swar1_byt a b c d e f g h ha hb hc hd he hf hg hh, swar2_byt _ _ _ _ _ _ _ _ (p1_lt a ha) (p1_lt b hb) (p1_lt c hc) (p1_lt d hd) (p1_lt e he) (p1_lt f hf) (p1_lt g hg) (p1_lt h hh)]
  have ka := p2_le' a ha; have kb := p2_le' b hb; have kc := p2_le' c hc; have kd := p2_le' d hd
  have ke := p2_le' e he; have kf := p2_le' f hf; have kg := p2_le' g hg; have kh := p2_le' h hh
  have qa := popAux8_le a ha; have qb := popAux8_le b hb; have qc := popAux8_le c hc; have qd := popAux8_le d hd
  have qe := popAux8_le e he; have qf := popAux8_le f hf; have qg := popAux8_le g hg; have qh := popAux8_le h hh
  have l2 : byt (p2 (p1 a)) (p2 (p1 b)) (p2 (p1 c)) (p2 (p1 d)) (p2 (p1 e)) (p2 (p1 f)) (p2 (p1 g)) (p2 (p1 h)) ≤ byt 68 68 68 68 68 68 68 68 := by unfold byt; omega
  have l3 : byt (Lib.popAux 8 a) (Lib.popAux 8 b) (Lib.popAux 8 c) (Lib.popAux 8 d) (Lib.popAux 8 e) (Lib.popAux 8 f) (Lib.popAux 8 g) (Lib.popAux 8 h) ≤ byt 8 8 8 8 8 8 8 8 := by unfold byt; omega
  have n2 : byt 68 68 68 68 68 68 68 68 = 4919131752989213764 := rfl
  have n3 : byt 8 8 8 8 8 8 8 8 = 578721382704613384 := rfl
  refine ⟨byt_lt _ _ _ _ _ _ _ _ (p1_lt a ha) (p1_lt b hb) (p1_lt c hc) (p1_lt d hd) (p1_lt e he) (p1_lt f hf) (p1_lt g hg) (p1_lt h hh), by omega, by omega, by omega, ?_, ?_, ?_, fold_byt _ _ _ _ _ _ _ _ qa qb qc qd qe qf qg qh⟩
  · unfold swar4; omega
  · unfold swar5 swar4; omega
  · unfold swar6 swar5 swar4; omega
end Go.Proofs.YtbfcdpabjailcaaGreatDoor

/- Package bitvec: functions of plain numbers; the library's counts of bits. -/
namespace Go.Proofs.YtbfcdpabjailcaaGreatDoor
set_option maxRecDepth 100000
open Go.RowKit
set_option linter.unusedVariables false

theorem ret_i {k : IntKind} {a b : Int} (h : a = b) : Ending.returned (.int k a) = .returned (.int k b) := by rw [h]

set_option maxHeartbeats 400000 in
theorem clamp_calls (n most : Int) (w : World) :
    Calls Tryz.prog 137 #[.int .i64 n, .int .i64 most] w fun e w' => e = .returned (.int .i64 (min (max n 0) most)) ∧ w = w' := by
  by_cases h : n < 0
  · by_cases h2 : most < 0
    · go_enter Tryz.func137, Tryz.ntmps137
      go_wp2
      all_goals (go_ret; exact ⟨ret_i (by first | rfl | omega), rfl⟩)
    · go_enter Tryz.func137, Tryz.ntmps137
      go_wp2
      all_goals (go_ret; exact ⟨ret_i (by first | rfl | omega), rfl⟩)
  · by_cases h2 : most < n
    · go_enter Tryz.func137, Tryz.ntmps137
      go_wp2
      all_goals (go_ret; exact ⟨ret_i (by first | rfl | omega), rfl⟩)
    · go_enter Tryz.func137, Tryz.ntmps137
      go_wp2
      all_goals (go_ret; exact ⟨ret_i (by first | rfl | omega), rfl⟩)
set_option maxHeartbeats 400000 in
theorem wordsFor_calls (n : Nat) (h : n ≤ 2000000) (w : World) :
    Calls Tryz.prog 99 #[.int .i64 n] w fun e w' => e = .returned (.int .i64 ((n + 63) / 64 : Nat)) ∧ w = w' := by
  go_enter Tryz.func99, Tryz.ntmps99
  go_wp2
  go_ret
  exact ⟨ret_i (show ((n : Int) + 64 - 1) / 64 = _ by omega), rfl⟩
theorem wrap_low (n : Nat) (h : n < 64) : IntKind.u64.wrap (IntKind.u64.wrap (2 ^ n) - 1) = ((2 ^ n - 1 : Nat) : Int) := by
  have h1 : (2 ^ n : Nat) ≤ 2 ^ 63 := Nat.pow_le_pow_right (by decide) (by omega)
  have h2 : 0 < (2 ^ n : Nat) := Nat.two_pow_pos n
  have e : ((2 : Int) ^ n) = ((2 ^ n : Nat) : Int) := by simp
  rw [e, IntKind.wrap_u64, IntKind.wrap_u64]
  generalize 2 ^ n = m at *
  omega
set_option maxHeartbeats 400000 in
theorem low_nat (n : Nat) (h : n < 64) (w : World) :
    Calls Tryz.prog 139 #[.int .i64 n] w fun e w' => e = .returned (.int .u64 (2 ^ n - 1 : Nat)) ∧ w = w' := by
  go_enter Tryz.func139, Tryz.ntmps139
  go_wp2
  go_ret
  exact ⟨ret_i (wrap_low n h), rfl⟩
theorem sw1 (x : Nat) (h : x < 18446744073709551616) (h1 : swar1 x < 18446744073709551616) : IntKind.u64.wrap (bits BinOp.and IntKind.u64 (↑x / 2) 6148914691236517205 + bits BinOp.and IntKind.u64 (↑x) 6148914691236517205) = (swar1 x : Int) := by
  have e : ((x : Int) / 2) = ((x / 2 : Nat) : Int) := by omega
  have a := u64_and_nat (x / 2) 6148914691236517205 (by omega) (by decide)
  have b := u64_and_nat x 6148914691236517205 h (by decide)
  rw [e, show (6148914691236517205 : Int) = ((6148914691236517205 : Nat) : Int) from rfl, a, b, IntKind.wrap_u64]
  unfold swar1 at h1 ⊢
  omega
theorem sw2 (x : Nat) (h : x < 18446744073709551616) (h1 : swar2 x < 18446744073709551616) : IntKind.u64.wrap (bits BinOp.and IntKind.u64 (↑x / 4) 3689348814741910323 + bits BinOp.and IntKind.u64 (↑x) 3689348814741910323) = (swar2 x : Int) := by
  have e : ((x : Int) / 4) = ((x / 4 : Nat) : Int) := by omega
  have a := u64_and_nat (x / 4) 3689348814741910323 (by omega) (by decide)
  have b := u64_and_nat x 3689348814741910323 h (by decide)
  rw [e, show (3689348814741910323 : Int) = ((3689348814741910323 : Nat) : Int) from rfl, a, b, IntKind.wrap_u64]
  unfold swar2 at h1 ⊢
  omega
theorem sw3 (x : Nat) (h : x / 16 + x < 18446744073709551616) : bits BinOp.and IntKind.u64 (IntKind.u64.wrap (↑x / 16 + ↑x)) 1085102592571150095 = (swar3 x : Int) := by
  have e : IntKind.u64.wrap ((x : Int) / 16 + (x : Int)) = ((x / 16 + x : Nat) : Int) := by rw [IntKind.wrap_u64]; omega
  rw [e, show (1085102592571150095 : Int) = ((1085102592571150095 : Nat) : Int) from rfl, u64_and_nat _ _ h (by decide)]
  rfl
theorem sw4 (x : Nat) (h : swar4 x < 18446744073709551616) : IntKind.u64.wrap (↑x + ↑x / 256) = (swar4 x : Int) := by
  unfold swar4 at h ⊢; rw [IntKind.wrap_u64]; omega
theorem sw5 (x : Nat) (h : swar5 x < 18446744073709551616) : IntKind.u64.wrap (↑x + ↑x / 65536) = (swar5 x : Int) := by
  unfold swar5 at h ⊢; rw [IntKind.wrap_u64]; omega
theorem sw6 (x : Nat) (h : swar6 x < 9223372036854775808) : IntKind.u64.wrap (↑x + ↑x / 4294967296) = (swar6 x : Int) := by
  unfold swar6 at h ⊢; rw [IntKind.wrap_u64]; omega
set_option maxHeartbeats 1000000 in
theorem onesCount_calls (x : Nat) (h : x < 18446744073709551616) (w : World) :
    Calls Tryz.prog 138 #[.int .u64 x] w fun e w' => e = .returned (.int .i64 (cnt x.testBit 64)) ∧ w = w' := by
  go_enter Tryz.func138, Tryz.ntmps138
  go_wp2
  go_ret
  obtain ⟨h1, h2, h3, h4, h5, h6, h7, h8⟩ := swar_all x h
  refine ⟨ret_i ?_, rfl⟩
  rw [sw1 x h h1, sw2 _ h1 h2, sw3 _ h3, sw4 _ h5, sw5 _ h6, sw6 _ h7]
  rw [i64_and127, IntWalk.wrap64_in _ (by omega)]
  omega
/-- The table in its variable. -/
def TabAt (w : World) : Prop := ∀ j, j < 64 → w.cell? ⟨1, j, none⟩ = some (.int .u8 (Lib.deBruijn64tab.getD j 0))
theorem tz_key (x a : Nat) (hx : x < 18446744073709551616) (hx0 : x ≠ 0) (hlow : x &&& (18446744073709551616 - x) = a) :
    IntKind.u64.wrap (bits BinOp.and IntKind.u64 (x : Int) (IntKind.u64.wrap (-(x : Int))) * 285870213051353865) / 288230376151711744 = ((a * 285870213051353865 % 18446744073709551616 / 288230376151711744 : Nat) : Int) := by
  have e1 : IntKind.u64.wrap (-(x : Int)) = ((18446744073709551616 - x : Nat) : Int) := by rw [IntKind.wrap_u64]; omega
  rw [e1, u64_and_nat x _ hx (by omega), hlow, IntKind.wrap_u64]
  omega
set_option maxHeartbeats 1000000 in
theorem trailing_core (x k idx : Nat) (w : World) (hx0 : ((x : Int) == 0) = false)
    (key : IntKind.u64.wrap (bits BinOp.and IntKind.u64 (x : Int) (IntKind.u64.wrap (-(x : Int))) * 285870213051353865) / 288230376151711744 = (idx : Int))
    (hi : idx < 64) (hk : k < 64) (hcell : w.cell? ⟨1, idx, none⟩ = some (.int .u8 k)) :
    Calls Tryz.prog 130 #[.int .u64 x] w fun e w' => e = .returned (.int .i64 k) ∧ w = w' := by
  go_enter Tryz.func130, Tryz.ntmps130
  go_wp2_with (simp only [key])
  go_ret
  exact ⟨rfl, rfl⟩
theorem trailing_calls (x : Nat) (hx : x < 18446744073709551616) (hx0 : x ≠ 0) (w : World) (hT : TabAt w) :
    Calls Tryz.prog 130 #[.int .u64 x] w fun e w' => e = .returned (.int .i64 (Lib.ctz 64 x)) ∧ w = w' := by
  obtain ⟨hlow, hk⟩ := Lib.lowest_bit 64 x hx0 hx
  obtain ⟨hi, htab⟩ := Lib.deBruijn64_at _ hk
  have hcell := hT _ hi
  rw [htab] at hcell
  exact trailing_core x _ _ w (by simp; omega) (tz_key x _ hx hx0 hlow) hi hk hcell
end Go.Proofs.YtbfcdpabjailcaaGreatDoor

/- Rows of cells as lists, and how an argument that is a slice of one-cell elements is opened. -/
namespace Go.Proofs.YtbfcdpabjailcaaGreatDoor
set_option maxRecDepth 100000
open Go.ChangeShapes Go.WideShapes Go.RowKit

/-- v is a slice whose elements are xs, one cell each. -/
def Row (w : World) (v : Value) (xs : List Value) : Prop :=
  (∃ ao cap, xs = [] ∧ v = .slice ao 0 cap) ∨ ∃ b off cap : Nat, 0 < xs.length ∧ v = .slice (some ⟨b, off, none⟩) xs.length cap ∧ ∀ i (h : i < xs.length), w.cell? ⟨b, off + i, none⟩ = some xs[i]

/-- .. and its capacity is no less than its length. -/
def RowC (w : World) (v : Value) (xs : List Value) : Prop := Row w v xs ∧ ∃ ao cap, v = .slice ao xs.length cap ∧ xs.length ≤ cap ∧ cap ≤ maxLen
theorem Row.keep {w w' : World} {v : Value} {xs : List Value} (hk : ∀ a v, w.cell? a = some v → w'.cell? a = some v) (h : Row w v xs) : Row w' v xs := by
  rcases h with h | ⟨b, off, cap, h0, h1, h2⟩
  · exact .inl h
  · exact .inr ⟨b, off, cap, h0, h1, fun i hi => hk _ _ (h2 i hi)⟩

section
variable {H : Type} {enc : TypeId × Value → H} {P : Program} {w : World} {base : Nat} {spare : Nat → Bool} {held : Bool}

theorem open_row {t e : TypeId} {fuel : Nat} {cs : List Value} {x : DataW H × List MemPlace} (ht : P.underlying t = some (.slice e)) (hc : P.cellsOf e = 1) (Q : Value → Prop)
    (hQ : ∀ n cs y, DataW.trod enc P w base spare held n e cs = some y → ∃ u, cs = [u] ∧ Q u)
    (h : DataW.trod enc P w base spare held fuel t cs = some x) : ∃ v xs, cs = [v] ∧ RowC w v xs ∧ (∀ u ∈ xs, Q u) ∧ xs.length ≤ maxLen := by
  rcases DataW.trod_slice ht h with ⟨h0, _⟩ | ⟨a, len, cap, elems, rest, n, _, rfl, rfl, hb, hl, hm, hlen, hel, hsp, hns⟩
  · exact ⟨_, [], h0, ⟨.inl ⟨_, _, rfl, rfl⟩, _, _, rfl, by simp, by simp⟩, by simp, by simp⟩
  rcases Nat.eq_zero_or_pos len with h0 | hpos
  · subst h0
    exact ⟨_, [], rfl, ⟨.inl ⟨_, _, rfl, rfl⟩, _, _, rfl, by simp, hm⟩, by simp, by simp⟩
  have each : ∀ i, i < len → ∃ u, w.cell? (a.add i) = some u ∧ Q u := by
    intro i hi
    have h1 := hel i hi
    rw [hc, Nat.mul_one] at h1
    have hlt : i < elems.length := by omega
    rw [List.getElem?_eq_getElem hlt] at h1
    obtain ⟨cs', hcs, hy'⟩ := Option.bind_eq_some_iff.1 h1
    obtain ⟨u, rfl, hq⟩ := hQ _ _ _ hy'
    exact ⟨u, cell_of_cells?_one hcs, hq⟩
  obtain ⟨b, off, spot⟩ := a
  obtain ⟨u0, hu0, _⟩ := each 0 hpos
  have hspot : spot = none := by simpa [Addr.add] using World.cell?_spot hu0
  subst hspot
  have hlm : len ≤ maxLen := by omega
  refine ⟨_, (List.range len).map fun i => (w.cell? ⟨b, off + i, none⟩).getD undef, rfl, ⟨.inr ⟨b, off, cap, by simpa using hpos, by simp, fun i hi => ?_⟩, _, cap, by simp; rfl, ?_, hm⟩, fun u hu => ?_, by simpa using hlm⟩
  · have hi' : i < len := by simpa using hi
    obtain ⟨u, hu, _⟩ := each i hi'
    rw [Go.WideShapes.add_plain] at hu
    simp [hu]
  · simpa using hl
  · obtain ⟨i, hi, rfl⟩ := List.mem_map.1 hu
    obtain ⟨u, hu, hq⟩ := each i (by simpa using hi)
    rw [Go.WideShapes.add_plain] at hu
    simpa [hu] using hq

theorem elem_int {e : TypeId} {k : IntKind} (he : P.underlying e = some (.int k)) : ∀ n cs y, DataW.trod enc P w base spare held n e cs = some y → ∃ u, cs = [u] ∧ ∃ z, u = .int k z ∧ (Lit.int k z).wf = true :=
  fun _ _ _ h => by obtain ⟨z, h1, _, h3⟩ := DataW.trod_int he h; exact ⟨_, h1, z, rfl, h3⟩
theorem trod_float1 {e : TypeId} {k : FloatKind} {fuel : Nat} {cs : List Value} {x : DataW H × List MemPlace} (ht : P.underlying e = some (.float k)) (h : DataW.trod enc P w base spare held fuel e cs = some x) : ∃ b, cs = [.float k b] ∧ (Lit.float k b).wf = true := by
  cases fuel with
  | zero => simp [DataW.trod] at h
  | succ n =>
    unfold DataW.trod at h
    rw [ht] at h
    split at h <;> simp_all
theorem elem_float {e : TypeId} {k : FloatKind} (he : P.underlying e = some (.float k)) : ∀ n cs y, DataW.trod enc P w base spare held n e cs = some y → ∃ u, cs = [u] ∧ ∃ z, u = .float k z ∧ (Lit.float k z).wf = true :=
  fun _ _ _ h => by obtain ⟨z, h1, h3⟩ := trod_float1 he h; exact ⟨_, h1, z, rfl, h3⟩
end

/-- A list of values of one make is the image of a list. -/
theorem list_of {α : Type} (f : α → Value) (R : α → Prop) : ∀ xs : List Value, (∀ u ∈ xs, ∃ z, u = f z ∧ R z) → ∃ zs : List α, xs = zs.map f ∧ ∀ z ∈ zs, R z
  | [], _ => ⟨[], rfl, by simp⟩
  | x :: xs, h => by
    obtain ⟨z, rfl, hz⟩ := h x List.mem_cons_self
    obtain ⟨zs, rfl, hzs⟩ := list_of f R xs (fun u hu => h u (List.mem_cons_of_mem _ hu))
    exact ⟨z :: zs, rfl, fun y hy => by
      rcases List.mem_cons.1 hy with rfl | hy
      · exact hz
      · exact hzs y hy⟩
end Go.Proofs.YtbfcdpabjailcaaGreatDoor

/- Slices read and owned; package bitvec: blank, trim. -/
namespace Go.Proofs.YtbfcdpabjailcaaGreatDoor
set_option maxRecDepth 100000
open Go.RowKit
set_option linter.unusedVariables false

theorem info_u64 : (Tryz.prog.info? 138).map (fun i => (i.zero, i.size, i.bytes)) = some (some (.int .u64 0), 1, 8) := by kernel_rfl
theorem info_bool : (Tryz.prog.info? 4).map (fun i => (i.zero, i.size, i.bytes)) = some (some (.bool false), 1, 1) := by kernel_rfl
theorem info_int : (Tryz.prog.info? 3).map (fun i => (i.zero, i.size, i.bytes)) = some (some (.int .i64 0), 1, 8) := by kernel_rfl

theorem ret_b {a b : Bool} (h : a = b) : Ending.returned (.bool a) = .returned (.bool b) := by rw [h]
theorem keep_below {w w' : World} (h : Below w.heap.size w w') : ∀ a v, w.cell? a = some v → w'.cell? a = some v := fun a _ hv => (h.cell (p := a) (World.block_lt_of_cell? w _ hv)).trans hv
theorem keep_alloc (w : World) (o : Obj) : ∀ a v, w.cell? a = some v → (w.alloc o).cell? a = some v := fun _ _ hv => by
  rw [World.cell?_alloc_lt _ _ _ (World.block_lt_of_cell? w _ hv)]; exact hv
/-- s is a slice of n elements, those of xs. -/
def Sl (w : World) (s : Value) (n : Nat) (xs : List Value) : Prop :=
  xs.length = n ∧ ∃ ao cap, s = .slice ao n cap ∧ ∀ i (h : i < xs.length), ∃ b off, ao = some ⟨b, off, none⟩ ∧ w.cell? ⟨b, off + i, none⟩ = some xs[i]
theorem Sl.keep {w w' : World} {s : Value} {n : Nat} {xs : List Value} (hk : ∀ a v, w.cell? a = some v → w'.cell? a = some v) (h : Sl w s n xs) : Sl w' s n xs := by
  obtain ⟨h1, ao, cap, h2, h3⟩ := h
  exact ⟨h1, ao, cap, h2, fun i hi => by obtain ⟨b, off, e, hc⟩ := h3 i hi; exact ⟨b, off, e, hk _ _ hc⟩⟩
theorem Row.sl {w : World} {v : Value} {xs : List Value} (h : Row w v xs) : Sl w v xs.length xs := by
  rcases h with ⟨ao, cap, rfl, rfl⟩ | ⟨b, off, cap, h0, rfl, hc⟩
  · exact ⟨rfl, ao, cap, rfl, fun i hi => absurd hi (by simp)⟩
  · exact ⟨rfl, _, cap, rfl, fun i hi => ⟨b, off, rfl, hc i hi⟩⟩
theorem Sl.owned {w : World} {base : Nat} {e : TypeId} {v : Value} {n : Nat} {xs : List Value} (h : w.ownsRow base e 1 v n xs) : Sl w v n xs := by
  have hl : xs.length = n := by simpa using h.1
  rcases h.2 with ⟨rfl, rfl⟩ | ⟨g, cap, cur, rfl, hb, hg, hnc, hcm, hcs, htake⟩
  · exact ⟨hl, none, 0, rfl, fun i hi => absurd hi (by omega)⟩
  · refine ⟨hl, _, cap, rfl, fun i hi => ⟨g, 0, rfl, ?_⟩⟩
    rw [Nat.zero_add, h.cellAt i (by omega), List.getElem?_eq_getElem hi]

def u64s (ws : List Nat) : List Value := ws.map fun z : Nat => Value.int .u64 (z : Int)
def bools (l : List Bool) : List Value := l.map Value.bool
def ints (l : List Int) : List Value := l.map (Value.int .i64)
theorem u64s_len (ws : List Nat) : (u64s ws).length = ws.length := by simp [u64s]
theorem bools_len (l : List Bool) : (bools l).length = l.length := by simp [bools]
theorem ints_len (l : List Int) : (ints l).length = l.length := by simp [ints]
theorem u64s_get (ws : List Nat) (i : Nat) (h : i < (u64s ws).length) : (u64s ws)[i] = .int .u64 ((ws[i]'(by simpa [u64s] using h) : Nat) : Int) := by simp [u64s]
theorem bools_get (l : List Bool) (i : Nat) (h : i < (bools l).length) : (bools l)[i] = .bool (l[i]'(by simpa [bools] using h)) := by simp [bools]
theorem ints_get (l : List Int) (i : Nat) (h : i < (ints l).length) : (ints l)[i] = .int .i64 (l[i]'(by simpa [ints] using h)) := by simp [ints]

/-- v is a bit vector of the booleans l. -/
def IsBits (w : World) (v : Value) (l : List Bool) : Prop := ∃ s, v = .agg #[.int .i64 (l.length : Int), s] ∧ Sl w s ((l.length + 63) / 64) (u64s (words l))
theorem IsBits.keep {w w' : World} {v : Value} {l : List Bool} (hk : ∀ a v, w.cell? a = some v → w'.cell? a = some v) (h : IsBits w v l) : IsBits w' v l := by
  obtain ⟨s, h1, h2⟩ := h
  exact ⟨s, h1, h2.keep hk⟩
/-- .. opened: its slice's value, and each word's cell. -/
theorem IsBits.opened {w : World} {v : Value} {l : List Bool} (h : IsBits w v l) :
    ∃ ao cap, v = .agg #[.int .i64 (l.length : Int), .slice ao ((l.length + 63) / 64 : Nat) cap] ∧ ∀ i, i < (l.length + 63) / 64 → ∃ b off, ao = some ⟨b, off, none⟩ ∧ w.cell? ⟨b, off + i, none⟩ = some (.int .u64 (bw (sq l) i : Nat)) := by
  obtain ⟨s, rfl, hl, ao, cap, rfl, hc⟩ := h
  refine ⟨ao, cap, rfl, fun i hi => ?_⟩
  have hi' : i < (u64s (words l)).length := by rw [hl]; exact hi
  obtain ⟨b, off, e, hcell⟩ := hc i hi'
  refine ⟨b, off, e, ?_⟩
  rw [hcell, u64s_get]
  have : (words l)[i]'(by simpa [u64s] using hi') = bw (sq l) i := bws_get _ _ _ _
  rw [this]

/-- A slice at the head of block g, its row the call's own. -/
def Own (w : World) (base g n : Nat) (ws : List Nat) : Prop := w.ownsRow base 138 1 (.slice (some ⟨g, 0, none⟩) n n) n (u64s ws)
theorem Own.len {w : World} {base g n : Nat} {ws : List Nat} (h : Own w base g n ws) : ws.length = n := by simpa [u64s] using h.1
theorem Own.ge {w : World} {base g n : Nat} {ws : List Nat} (h : Own w base g n ws) : base ≤ g := (World.ownsRow.lt h g rfl).1
theorem Own.lt {w : World} {base g n : Nat} {ws : List Nat} (h : Own w base g n ws) : g < w.heap.size := (World.ownsRow.lt h g rfl).2
theorem Own.cell {w : World} {base g n : Nat} {ws : List Nat} (h : Own w base g n ws) (i : Nat) (hi : i < n) : w.cell? ⟨g, i, none⟩ = some (.int .u64 ((ws[i]'(by rw [h.len]; exact hi) : Nat) : Int)) := by
  have hl := h.len
  rw [World.ownsRow.cellAt h i (by omega), List.getElem?_eq_getElem (by rw [u64s_len, hl]; exact hi), u64s_get]
theorem Own.cellz {w : World} {base g n : Nat} {ws : List Nat} (h : Own w base g n ws) (i : Nat) (hi : i < n) : ∃ z, ws[i]? = some z ∧ w.cell? ⟨g, i, none⟩ = some (.int .u64 (z : Int)) :=
  ⟨_, List.getElem?_eq_getElem (by rw [h.len]; exact hi), h.cell i hi⟩
theorem Own.free {w : World} {base g n : Nat} {ws : List Nat} (h : Own w base g n ws) (i : Nat) : w.frozen? ⟨g, i, none⟩ = false := World.ownsRow.frozenAt h i
theorem Own.set {w : World} {base g n : Nat} {ws : List Nat} (h : Own w base g n ws) (i z : Nat) : Own (w.setCell ⟨g, i, none⟩ (.int .u64 (z : Int))) base g n (ws.set i z) := by
  have := (World.ownsRow.stored h i (.int .u64 (z : Int))).1
  unfold Own u64s at *
  rwa [List.map_set]
theorem Own.keep {w w' : World} {base g n : Nat} {ws : List Nat} (h : Own w base g n ws) {row : Option Nat} (hg : w.grownBy w' row) (hne : row ≠ some g) : Own w' base g n ws :=
  World.ownsRow.kept h hg (.inr (fun e => hne e.symm))
theorem Own.alloc {w : World} {base g n : Nat} {ws : List Nat} (h : Own w base g n ws) (o : Obj) : Own (w.alloc o) base g n ws := World.ownsRow.alloc h o
theorem Own.below {w w' : World} {base g n : Nat} {ws : List Nat} (h : Own w base g n ws) (hb : Below w.heap.size w w') : Own w' base g n ws :=
  World.ownsRow.kept (row := none) h ⟨hb.os, hb.tape, hb.output, hb.size, fun k hk _ => hb.block k hk⟩ (.inr (by simp [Value.ownBlock]))
theorem Own.drew {w : World} {base g n : Nat} {ws : List Nat} (h : Own w base g n ws) : Own w.drew base g n ws := h
theorem Own.isBits {w : World} {base g : Nat} {l : List Bool} (h : Own w base g ((l.length + 63) / 64) (words l)) : IsBits w (.agg #[.int .i64 (l.length : Int), .slice (some ⟨g, 0, none⟩) ((l.length + 63) / 64) ((l.length + 63) / 64)]) l :=
  ⟨_, rfl, Sl.owned h⟩

theorem grown_setCell (w : World) (a : Addr) (v : Value) : w.grownBy (w.setCell a v) (some a.block) :=
  ⟨rfl, rfl, rfl, by simp, fun k _ hne => Below.heap_setCell _ _ _ _ (fun e => hne (by rw [e]))⟩
theorem grown_trans {a b c : World} {row : Option Nat} (h : a.grownBy b row) (k : b.grownBy c row) : a.grownBy c row :=
  ⟨k.os.trans h.os, k.tape.trans h.tape, k.output.trans h.output, Nat.le_trans h.size k.size, fun i hi hne => (k.block i (Nat.lt_of_lt_of_le hi h.size) hne).trans (h.block i hi hne)⟩
theorem grown_any {a b : World} (h : a.grownBy b none) (row : Option Nat) : a.grownBy b row := ⟨h.os, h.tape, h.output, h.size, fun i hi _ => h.block i hi (by simp)⟩

theorem grown_drew {a b : World} {row : Option Nat} (h : a.grownBy b row) : a.grownBy b.drew row := ⟨h.os, h.tape, h.output, h.size, h.block⟩
/-- A block of W zero words. -/
def zeroU (W : Nat) : Array Value := madeCells (Value.int .u64 0).cells (W * 1)
theorem own_mk64 (W : Nat) (hW : W ≤ 2000000) (w : World) (base : Nat) (hb : base ≤ w.heap.size) : Own (w.alloc (.cells (zeroU W) 138)) base w.heap.size W (List.replicate W 0) := by
  have ho := World.ownsRow_lit (e := 138) (size := 1) w (zeroU W) W hb (by unfold maxLen; omega) (size_madeCells _ _)
  unfold Own
  have e : (zeroU W).toList = u64s (List.replicate W 0) := by
    rw [zeroU, show (Value.int .u64 0).cells = #[.int .u64 0] from rfl, toList_madeCells_one]; simp [u64s]
  rw [← e]; exact ho
theorem run_mk64 (W : Nat) (hW : W ≤ 2000000) (w : World) : (Instr.makeSlice 76 (.int .i64 (W : Int)) (.int .i64 (W : Int))).run Tryz.prog w = .ok (.slice (some ⟨w.heap.size, 0, none⟩) W W) (w.alloc (.cells (zeroU W) 138)) := by
  obtain ⟨i0, hi, hz0, hz1, hz2⟩ := info_parts info_u64
  have hr := run_make (P := Tryz.prog) w 76 138 i0 _ Tryz.underlying76 hi hz0 .i64 .i64 W W (by omega) (Int.le_refl _) (by rw [hz2]; omega) (by omega)
  simp only [Int.toNat_natCast, hz1] at hr
  exact hr

set_option maxHeartbeats 1000000 in
theorem blank_calls (n : Nat) (h : n ≤ 2000000) (w : World) :
    Calls Tryz.prog 116 #[.int .i64 n] w fun e w' => ∃ g, e = .returned (.agg #[.int .i64 n, .slice (some ⟨g, 0, none⟩) ((n + 63) / 64) ((n + 63) / 64)]) ∧ Own w' w.heap.size g ((n + 63) / 64) (List.replicate ((n + 63) / 64) 0) ∧ Below w.heap.size w w' := by
  have hmk := run_mk64 ((n + 63) / 64) (by omega)
  have ec : (((n + 63) / 64 : Nat) : Int) = ((n : Int) + 63) / 64 := by omega
  rw [ec] at hmk
  clear ec
  go_enter Tryz.func116, Tryz.ntmps116
  go_wp2_with (go_at_call 99; refine (wordsFor_calls _ h _).mono ?_; rintro e w' ⟨rfl, rfl⟩)
  refine bodyPost_ret (v := .agg #[.int .i64 n, .slice (some ⟨w.heap.size + 1, 0, none⟩) ((n + 63) / 64) ((n + 63) / 64)]) (by simp [results, Tryz.results116, go_sem]) rfl ⟨w.heap.size + 1, rfl, ?_, ((Below.refl _ _).alloc (Nat.le_refl _) _).alloc (by simp) _⟩
  have := own_mk64 ((n + 63) / 64) (by omega) (w.alloc (.cells #[.int .i64 n, .slice (some ⟨w.heap.size + 1, 0, none⟩) ((n + 63) / 64) ((n + 63) / 64)] 78)) w.heap.size (by simp)
  simpa using this

theorem still_tail {P : Program} {id : Nat} {Q : Exit → Act → World → Prop} {a : Act} {w : World} {l : List Oper} (n : Nat) (hm : P.follows .mixedOrders = true) (hB : Region.lexTailB .any l.toArray n = true)
    (h : wpStill P l.toArray w.drew (fun a' => wpList P l.toArray Q (l.drop n) a' w.drew) (l.take n) a) : (Code.region id l.toArray true).wp P Q a w := wp_region_still_tail n hm hB h
theorem stl {P : Program} {f : FuncId} {args : Array Value} {w : World} {v : Value} (h : Calls P f args w fun e w' => e = .returned v ∧ w = w') : Calls P f args w fun e w' => e = .returned v ∧ w' = w :=
  h.mono fun _ _ ⟨h1, h2⟩ => ⟨h1, h2.symm⟩
theorem blank_K (n K : Nat) (h : n ≤ 2000000) (hK : (n + 63) / 64 = K) (w : World) :
    Calls Tryz.prog 116 #[.int .i64 n] w fun e w' => ∃ g, e = .returned (.agg #[.int .i64 n, .slice (some ⟨g, 0, none⟩) K K]) ∧ Own w' w.heap.size g K (List.replicate K 0) ∧ Below w.heap.size w w' := by
  subst hK; exact blank_calls n h w
theorem clamp_nat (n most : Int) (m : Nat) (h : min (max n 0) most = m) (w : World) :
    Calls Tryz.prog 137 #[.int .i64 n, .int .i64 most] w fun e w' => e = .returned (.int .i64 m) ∧ w = w' := by
  rw [← h]; exact clamp_calls n most w
theorem grown_frozen {w w' : World} {row : Option Nat} (hg : w.grownBy w' row) {a : Addr} (hl : a.block < w.heap.size) (hne : some a.block ≠ row) : w'.frozen? a = w.frozen? a :=
  World.frozen?_of_block (hg.block a.block hl hne)
/-- A block of two cells, known, not frozen. -/
def At2 (w : World) (b : Nat) (x y : Value) : Prop := b < w.heap.size ∧ w.cell? ⟨b, 0, none⟩ = some x ∧ w.cell? ⟨b, 1, none⟩ = some y ∧ ∀ o, w.frozen? ⟨b, o, none⟩ = false
theorem At2.new (w : World) (x y : Value) (t : TypeId) : At2 (w.alloc (.cells #[x, y] t)) w.heap.size x y := ⟨by simp, by simp, by simp, fun o => by simp⟩
theorem At2.grown {w w' : World} {b : Nat} {x y : Value} (h : At2 w b x y) {row : Option Nat} (hg : w.grownBy w' row) (hne : some b ≠ row) : At2 w' b x y :=
  ⟨Nat.lt_of_lt_of_le h.1 hg.size, hg.cell h.2.1 hne, hg.cell h.2.2.1 hne, fun o => (grown_frozen hg h.1 hne).trans (h.2.2.2 o)⟩
theorem At2.below {w w' : World} {b : Nat} {x y : Value} (h : At2 w b x y) (hb : Below w.heap.size w w') : At2 w' b x y :=
  ⟨Nat.lt_of_lt_of_le h.1 hb.size, keep_below hb _ _ h.2.1, keep_below hb _ _ h.2.2.1, fun o => (hb.frozen (p := ⟨b, o, none⟩) h.1).trans (h.2.2.2 o)⟩
theorem At2.alloc {w : World} {b : Nat} {x y : Value} (h : At2 w b x y) (o : Obj) : At2 (w.alloc o) b x y := h.grown (row := none) (World.grownBy_alloc w o none) (by simp)
theorem grown_refl (w : World) (row : Option Nat) : w.grownBy w row := ⟨rfl, rfl, rfl, Nat.le_refl _, fun _ _ _ => rfl⟩
theorem below_grown {w w' : World} (h : Below w.heap.size w w') : w.grownBy w' none := ⟨h.os, h.tape, h.output, h.size, fun k hk _ => h.block k hk⟩
theorem Sl.grown {w w' : World} {s : Value} {n : Nat} {xs : List Value} (h : Sl w s n xs) {g : Nat} (hg : w.grownBy w' (some g)) (hb : ∀ ao, s.ownBlock = some ao → ao ≠ g) : Sl w' s n xs := by
  obtain ⟨h1, ao, cap, rfl, h3⟩ := h
  exact ⟨h1, ao, cap, rfl, fun i hi => by
    obtain ⟨b, off, rfl, hc⟩ := h3 i hi
    exact ⟨b, off, rfl, hg.cell hc (fun e => hb b rfl (Option.some.inj e))⟩⟩

theorem below_set2 {w w2 : World} {b0 : Nat} (x y : Value) (h : Below w.heap.size w w2) (hb : w.heap.size ≤ b0) : Below w.heap.size w ((w2.setCell ⟨b0, 0, none⟩ x).setCell ⟨b0, 1, none⟩ y) :=
  (h.setCell (by exact hb) _).setCell (by exact hb) _

theorem owns_cell {w : World} {base : Nat} {e : TypeId} {g n cap : Nat} {xs : List Value} (h : w.ownsRow base e 1 (.slice (some ⟨g, 0, none⟩) n cap) n xs) (i : Nat) (hi : i < xs.length) : w.cell? ⟨g, i, none⟩ = some xs[i] := by
  have hl : xs.length = n := by simpa using h.1
  rw [h.cellAt i (by omega), List.getElem?_eq_getElem hi]
theorem owns_below {w w' : World} {base : Nat} {e : TypeId} {v : Value} {n : Nat} {xs : List Value} (h : w.ownsRow base e 1 v n xs) (hb : Below w.heap.size w w') : w'.ownsRow base e 1 v n xs :=
  World.ownsRow.kept (row := none) h ⟨hb.os, hb.tape, hb.output, hb.size, fun k hk _ => hb.block k hk⟩ (by cases hv : v.ownBlock <;> simp)
theorem grown_below {B : Nat} {a w w' : World} {v : Value} {base : Nat} {e : TypeId} {n : Nat} {xs : List Value} (h : Below B a w) (ho : w.ownsRow base e 1 v n xs) (hB : B ≤ base) (hs : B ≤ w.heap.size) (hg : w.grownBy w' v.ownBlock) : Below B a w' :=
  h.grown hg hs (fun k hk => by have := (ho.lt k hk).1; omega)
theorem _root_.Go.World.ownsRow.drewN' {w : World} {base : Nat} {e : TypeId} {size : Nat} {v : Value} {n : Nat} {xs : List Value} (h : w.ownsRow base e size v n xs) (q : Nat) : (w.drewN q).ownsRow base e size v n xs := h
theorem Below.drewN' {B : Nat} {w w' : World} (h : Below B w w') (n : Nat) : Below B w (w'.drewN n) := ⟨h.os, h.tape, h.output, h.size, h.block⟩
theorem IsBits.set {w : World} {v : Value} {l : List Bool} (h : IsBits w v l) {p : Addr} {u : Value} (hp : w.cell? p = some u) (hu : ∀ z : Nat, u ≠ .int .u64 (z : Int)) (x : Value) : IsBits (w.setCell p x) v l := by
  obtain ⟨s, rfl, hl, ao, cap, rfl, hc⟩ := h
  refine ⟨_, rfl, hl, ao, cap, rfl, fun i hi => ?_⟩
  obtain ⟨b, off, e, hcell⟩ := hc i hi
  refine ⟨b, off, e, ?_⟩
  rw [World.cell?_setCell_other _ _ _ _ (fun ep => ?_)]
  · exact hcell
  · rw [ep, hcell, u64s_get] at hp
    exact hu _ (Option.some.inj hp).symm
theorem IsBits.set2 {w : World} {v : Value} {l : List Bool} (h : IsBits w v l) {b : Nat} (hA : At2 w b (.int .i64 0) (.slice none 0 0)) (x y : Value) : IsBits ((w.setCell ⟨b, 0, none⟩ x).setCell ⟨b, 1, none⟩ y) v l := by
  have h1 := h.set hA.2.1 (fun z e => by simp at e) x
  have e1 : (w.setCell ⟨b, 0, none⟩ x).cell? ⟨b, 1, none⟩ = some (.slice none 0 0) := (World.cell?_setCell_other _ _ _ _ (by simp)).trans hA.2.2.1
  exact h1.set e1 (fun z e => by simp at e) y
/-- s is a slice of n elements, those of xs, its cells in blocks that ok allows. -/
def Slx (w : World) (ok : Nat → Prop) (s : Value) (n : Nat) (xs : List Value) : Prop :=
  xs.length = n ∧ ∃ ao cap, s = .slice ao n cap ∧ ∀ i (h : i < xs.length), ∃ b off, ao = some ⟨b, off, Option.none⟩ ∧ ok b ∧ w.cell? ⟨b, off + i, Option.none⟩ = some xs[i]
/-- .. and its capacity is no less than its length. -/
def Slc (w : World) (ok : Nat → Prop) (s : Value) (n : Nat) (xs : List Value) : Prop :=
  Slx w ok s n xs ∧ ∃ ao cap, s = .slice ao n cap ∧ n ≤ cap ∧ cap ≤ maxLen
/-- Worlds in which what lies in blocks that ok allows is as it was. -/
def Kept (ok : Nat → Prop) (w w' : World) : Prop := ∀ a v, ok a.block → w.cell? a = some v → w'.cell? a = some v
theorem Slx.keep {w w' : World} {ok ok' : Nat → Prop} {s : Value} {n : Nat} {xs : List Value} (hk : Kept ok w w') (hm : ∀ b, b < w.heap.size → ok b → ok' b) (h : Slx w ok s n xs) : Slx w' ok' s n xs := by
  obtain ⟨h1, ao, cap, h2, h3⟩ := h
  refine ⟨h1, ao, cap, h2, fun i hi => ?_⟩
  obtain ⟨b, off, e, hb, hc⟩ := h3 i hi
  exact ⟨b, off, e, hm b (World.block_lt_of_cell? w _ hc) hb, hk _ _ hb hc⟩
theorem Slc.keep {w w' : World} {ok ok' : Nat → Prop} {s : Value} {n : Nat} {xs : List Value} (hk : Kept ok w w') (hm : ∀ b, b < w.heap.size → ok b → ok' b) (h : Slc w ok s n xs) : Slc w' ok' s n xs := ⟨h.1.keep hk hm, h.2⟩
theorem Slx.sl {w : World} {ok : Nat → Prop} {s : Value} {n : Nat} {xs : List Value} (h : Slx w ok s n xs) : Sl w s n xs := by
  obtain ⟨h1, ao, cap, h2, h3⟩ := h
  exact ⟨h1, ao, cap, h2, fun i hi => by obtain ⟨b, off, e, _, hc⟩ := h3 i hi; exact ⟨b, off, e, hc⟩⟩
theorem Slx.of_sl {w : World} {s : Value} {n : Nat} {xs : List Value} (h : Sl w s n xs) : Slx w (fun _ => True) s n xs := by
  obtain ⟨h1, ao, cap, h2, h3⟩ := h
  exact ⟨h1, ao, cap, h2, fun i hi => by obtain ⟨b, off, e, hc⟩ := h3 i hi; exact ⟨b, off, e, trivial, hc⟩⟩
theorem Slx.owned {w : World} {base : Nat} {e : TypeId} {v : Value} {n : Nat} {xs : List Value} (h : w.ownsRow base e 1 v n xs) : Slx w (fun b => base ≤ b) v n xs := by
  have hl : xs.length = n := by simpa using h.1
  rcases h.2 with ⟨rfl, rfl⟩ | ⟨g, cap, cur, rfl, hb, hg, hnc, hcm, hcs, htake⟩
  · exact ⟨hl, Option.none, 0, rfl, fun i hi => absurd hi (by omega)⟩
  · refine ⟨hl, _, cap, rfl, fun i hi => ⟨g, 0, rfl, hb, ?_⟩⟩
    rw [Nat.zero_add, h.cellAt i (by omega), List.getElem?_eq_getElem hi]
theorem Slc.owned {w : World} {base : Nat} {e : TypeId} {v : Value} {n : Nat} {xs : List Value} (h : w.ownsRow base e 1 v n xs) : Slc w (fun b => base ≤ b) v n xs := by
  refine ⟨Slx.owned h, ?_⟩
  rcases h.2 with ⟨rfl, rfl⟩ | ⟨g, cap, cur, rfl, hb, hg, hnc, hcm, hcs, htake⟩
  · exact ⟨_, _, rfl, Nat.le_refl _, by unfold maxLen; omega⟩
  · exact ⟨_, _, rfl, hnc, hcm⟩
theorem RowC.slc {w : World} {v : Value} {xs : List Value} (h : RowC w v xs) : Slc w (fun _ => True) v xs.length xs := ⟨Slx.of_sl h.1.sl, by obtain ⟨ao, cap, e, h1, h2⟩ := h.2; exact ⟨ao, cap, e, h1, h2⟩⟩
theorem Slc.nil (w : World) (ok : Nat → Prop) : Slc w ok (.slice Option.none 0 0) 0 [] := ⟨⟨rfl, _, _, rfl, fun i hi => absurd hi (by simp)⟩, _, _, rfl, Nat.le_refl _, by unfold maxLen; omega⟩
theorem Slx.len {w : World} {ok : Nat → Prop} {s : Value} {n : Nat} {xs : List Value} (h : Slx w ok s n xs) : xs.length = n := h.1
theorem Slc.opened {w : World} {ok : Nat → Prop} {s : Value} {n : Nat} {xs : List Value} (h : Slc w ok s n xs) : ∃ ao cap, s = .slice ao n cap ∧ n ≤ cap ∧ cap ≤ maxLen ∧ xs.length = n ∧ ∀ i (h : i < xs.length), ∃ b off, ao = some ⟨b, off, Option.none⟩ ∧ ok b ∧ w.cell? ⟨b, off + i, Option.none⟩ = some xs[i] := by
  obtain ⟨⟨h1, ao, cap, rfl, h3⟩, ao', cap', e, h4, h5⟩ := h
  cases e
  exact ⟨ao, cap, rfl, h4, h5, h1, h3⟩
theorem Kept.all {ok : Nat → Prop} {w w' : World} (h : ∀ a v, w.cell? a = some v → w'.cell? a = some v) : Kept ok w w' := fun a v _ => h a v
theorem Kept.below {ok : Nat → Prop} {w w' : World} (h : Below w.heap.size w w') : Kept ok w w' := Kept.all (keep_below h)
theorem Kept.refl (ok : Nat → Prop) (w : World) : Kept ok w w := fun _ _ _ h => h
theorem Kept.trans {ok : Nat → Prop} {w w1 w2 : World} (h : Kept ok w w1) (k : Kept ok w1 w2) : Kept ok w w2 := fun a v o hv => k a v o (h a v o hv)
theorem Kept.setCell {ok : Nat → Prop} (w : World) (p : Addr) (x : Value) (h : ¬ ok p.block) : Kept ok w (w.setCell p x) := fun a v o hv => by
  rw [World.cell?_setCell_other _ _ _ _ (fun e => h (by rw [e]; exact o))]; exact hv

theorem Slc.below {w w' : World} {ok : Nat → Prop} {s : Value} {n : Nat} {xs : List Value} (h : Slc w ok s n xs) (hb : Below w.heap.size w w') : Slc w' ok s n xs := h.keep (Kept.below hb) (fun _ _ h => h)
theorem Slc.any {w : World} {ok : Nat → Prop} {s : Value} {n : Nat} {xs : List Value} (h : Slc w ok s n xs) : Slc w (fun _ => True) s n xs := h.keep (Kept.refl _ _) (fun _ _ _ => trivial)
/-- Booleans, and the blocks that they may lie in. -/
def IsBitsX (w : World) (ok : Nat → Prop) (v : Value) (l : List Bool) : Prop := ∃ s, v = .agg #[.int .i64 (l.length : Int), s] ∧ Slx w ok s ((l.length + 63) / 64) (u64s (words l))
theorem IsBitsX.bits {w : World} {ok : Nat → Prop} {v : Value} {l : List Bool} (h : IsBitsX w ok v l) : IsBits w v l := by
  obtain ⟨s, h1, h2⟩ := h
  exact ⟨s, h1, h2.sl⟩
theorem IsBitsX.keep {w w' : World} {ok ok' : Nat → Prop} {v : Value} {l : List Bool} (hk : Kept ok w w') (hm : ∀ b, b < w.heap.size → ok b → ok' b) (h : IsBitsX w ok v l) : IsBitsX w' ok' v l := by
  obtain ⟨s, h1, h2⟩ := h
  exact ⟨s, h1, h2.keep hk hm⟩
theorem finish_bitsX {w2 : World} {base g K b0 m : Nat} {ws : List Nat} {l : List Bool} (x y : Value) (ho : Own w2 base g K ws) (hw : ws = words l) (hm : l.length = m) (hK : (m + 63) / 64 = K) (hne : b0 ≠ g) :
    IsBitsX ((w2.setCell ⟨b0, 0, none⟩ x).setCell ⟨b0, 1, none⟩ y) (fun b => base ≤ b) (.agg #[.int .i64 (m : Int), .slice (some ⟨g, 0, none⟩) K K]) l := by
  subst hw; subst hm; subst hK
  exact ⟨_, rfl, Slx.owned ((ho.keep (grown_setCell _ _ _) (by simpa using hne)).keep (grown_setCell _ _ _) (by simpa using hne))⟩
theorem At2.go {w w' : World} {b : Nat} {x y : Value} (h : At2 w b x y) (hB : Below w.heap.size w w') : Hid (At2 w' b x y) := Lib.hid (h.below hB)
theorem TabAt.go {w w' : World} (h : TabAt w) (hB : Below w.heap.size w w') : Hid (TabAt w') := Lib.hid (fun j hj => keep_below hB _ _ (h j hj))
theorem IsBits.go {w w' : World} {v : Value} {l : List Bool} (h : IsBits w v l) (hB : Below w.heap.size w w') : Hid (IsBits w' v l) := Lib.hid (h.keep (keep_below hB))
theorem IsBitsX.go {w w' : World} {ok : Nat → Prop} {v : Value} {l : List Bool} (h : IsBitsX w ok v l) (hB : Below w.heap.size w w') : Hid (IsBitsX w' ok v l) := Lib.hid (h.keep (Kept.below hB) (fun _ _ h => h))
theorem Slc.go {w w' : World} {ok : Nat → Prop} {s : Value} {n : Nat} {xs : List Value} (h : Slc w ok s n xs) (hB : Below w.heap.size w w') : Hid (Slc w' ok s n xs) := Lib.hid (h.below hB)
end Go.Proofs.YtbfcdpabjailcaaGreatDoor

/- Package bitvec: Len, At, Words, Tidy; slices.Clone. -/
namespace Go.Proofs.YtbfcdpabjailcaaGreatDoor
set_option maxRecDepth 100000
open Go.RowKit
set_option linter.unusedVariables false

set_option maxHeartbeats 400000 in
theorem len_calls (v : Value) (l : List Bool) (w : World) (hv : IsBits w v l) :
    Calls Tryz.prog 70 #[v] w fun e w' => e = .returned (.int .i64 (l.length : Nat)) ∧ Below w.heap.size w w' := by
  obtain ⟨ao, cap, rfl, _⟩ := hv.opened
  clear hv
  go_enter Tryz.func70, Tryz.ntmps70
  go_wp2
  go_ret
  exact ⟨rfl, (Below.refl _ _).alloc (Nat.le_refl _) _⟩

theorem bit_at (F : Nat → Bool) (q r : Nat) (hr : r < 64) : (bits BinOp.and IntKind.u64 ((bw F q : Int) / 2 ^ r) 1 == 1) = F (64 * q + r) := by
  have e : ((bw F q : Int) / 2 ^ r) = ((bw F q / 2 ^ r : Nat) : Int) := by simp
  have h : bw F q / 2 ^ r < 18446744073709551616 := Nat.lt_of_le_of_lt (Nat.div_le_self _ _) (bw_lt _ _)
  have t := testBit_bw F q r
  rw [decide_eq_true hr, Bool.true_and, Nat.testBit_eq_decide_div_mod_eq] at t
  rw [e, show (1 : Int) = ((1 : Nat) : Int) from rfl, u64_and_nat _ 1 h (by decide), nat_mask1, ← t, Bool.eq_iff_iff, beq_iff_eq, decide_eq_true_iff]
  omega
/-- Boolean i of a list, i a whole number. -/
def sqI (l : List Bool) (i : Int) : Bool := if 0 ≤ i then sq l i.toNat else false
set_option maxHeartbeats 1000000 in
theorem at_calls (v : Value) (l : List Bool) (i : Int) (w : World) (hv : IsBits w v l) (hl : l.length ≤ 1048576) :
    Calls Tryz.prog 85 #[v, .int .i64 i] w fun e w' => e = .returned (.bool (sqI l i)) ∧ Below w.heap.size w w' := by
  obtain ⟨ao, cap, rfl, hcells⟩ := hv.opened
  have HC := Lib.hid hcells
  clear hv hcells
  by_cases h0 : i < 0
  · have H := Lib.hid (show sqI l i = false by simp [sqI]; omega)
    go_enter Tryz.func85, Tryz.ntmps85
    go_wp2
    all_goals (go_ret; exact ⟨ret_b H.out.symm, (Below.refl _ _).alloc (Nat.le_refl _) _⟩)
  · by_cases h1 : (l.length : Int) ≤ i
    · have H := Lib.hid (show sqI l i = false by simp only [sqI]; split; exact sq_out (by omega); rfl)
      go_enter Tryz.func85, Tryz.ntmps85
      go_wp2
      all_goals (go_ret; exact ⟨ret_b H.out.symm, (Below.refl _ _).alloc (Nat.le_refl _) _⟩)
    · obtain ⟨k, rfl⟩ := Int.eq_ofNat_of_zero_le (show 0 ≤ i by omega)
      obtain ⟨L, hL⟩ : ∃ L, (l.length + 63) / 64 = L := ⟨_, rfl⟩
      rw [hL] at HC ⊢
      obtain ⟨q, hq⟩ : ∃ q : Nat, (k : Int) / 64 = (q : Int) := ⟨k / 64, by omega⟩
      obtain ⟨r, hr⟩ : ∃ r : Nat, (k : Int) % 64 = (r : Int) := ⟨k % 64, by omega⟩
      have hqL : q < L := by omega
      have hr64 : r < 64 := by omega
      obtain ⟨b, off, rfl, hc⟩ := HC.out q hqL
      have hcl := keep_alloc w (.cells #[.int .i64 l.length, .slice (some ⟨b, off, none⟩) L cap] 78) _ _ hc
      have H := Lib.hid (show (bits BinOp.and IntKind.u64 ((bw (sq l) q : Int) / 2 ^ r) 1 == 1) = sqI l k by
        rw [bit_at _ _ _ hr64, sqI, if_pos (by omega)]
        congr 1; omega)
      clear hc hL
      go_enter Tryz.func85, Tryz.ntmps85
      go_wp2
      all_goals (go_ret; exact ⟨ret_b H.out, (Below.refl _ _).alloc (Nat.le_refl _) _⟩)

theorem last_clean (l : List Bool) (L r : Nat) (hL : (l.length + 63) / 64 = L + 1) (hr : l.length % 64 = r) (hr0 : r ≠ 0) : ((bw (sq l) L : Int) / 2 ^ r == 0) = true := by
  have e : ((bw (sq l) L : Int) / 2 ^ r) = ((bw (sq l) L / 2 ^ r : Nat) : Int) := by simp
  have h0 : bw (sq l) L / 2 ^ r = 0 := by
    apply Nat.eq_of_testBit_eq
    intro j
    rw [← Nat.shiftRight_eq_div_pow, Nat.testBit_shiftRight, testBit_bw, sq_out (by omega)]
    simp
  rw [e, h0]; rfl
set_option maxHeartbeats 1000000 in
theorem tidy_calls (v : Value) (l : List Bool) (w : World) (hv : IsBits w v l) (hl : l.length ≤ 1048576) :
    Calls Tryz.prog 67 #[v] w fun e w' => e = .returned (.bool true) ∧ Below w.heap.size w w' := by
  obtain ⟨ao, cap, rfl, hcells⟩ := hv.opened
  have HC := Lib.hid hcells
  clear hv hcells
  obtain ⟨K, hK⟩ : ∃ K, (l.length + 63) / 64 = K := ⟨_, rfl⟩
  rw [hK] at HC ⊢
  have HK := Lib.hid hK
  have hb : ((K : Int) != (K : Int)) = false := by simp
  have hwf := fun w => wordsFor_calls l.length (by omega) w
  rw [hK] at hwf
  have HW := Lib.hid hwf
  clear hwf
  by_cases hz : l.length % 64 = 0
  · have hz' : ((l.length : Int) % 64 == 0) = true := by simp; omega
    clear hK
    go_enter Tryz.func67, Tryz.ntmps67
    go_wp2
    go_quiet ((go_at_call 99; exact Calls.quiet_of_same (stl (HW.out _))))
    go_wp2
    go_ret
    exact ⟨rfl, Below.drewN' ((Below.refl _ _).alloc (Nat.le_refl _) _) _⟩
  · obtain ⟨r, hr⟩ : ∃ r : Nat, (l.length : Int) % 64 = (r : Int) := ⟨l.length % 64, by omega⟩
    have hz' : ((r : Int) == 0) = false := by simp; omega
    obtain ⟨L, rfl⟩ : ∃ L, K = L + 1 := ⟨K - 1, by omega⟩
    have H := Lib.hid (last_clean l L r hK (by omega) (by omega))
    have hr64 : r < 64 := by omega
    obtain ⟨b, off, rfl, hc⟩ := HC.out L (by omega)
    have hcl := keep_alloc w (.cells #[.int .i64 l.length, .slice (some ⟨b, off, none⟩) (L + 1) cap] 78) _ _ hc
    have hL2 : L ≤ 20000 := by omega
    have hb : (((L + 1 : Nat) : Int) != ((L + 1 : Nat) : Int)) = false := by simp
    clear hc hK
    go_enter Tryz.func67, Tryz.ntmps67
    go_wp2
    go_quiet ((go_at_call 99; exact Calls.quiet_of_same (stl (HW.out _))))
    go_wp2
    go_ret
    exact ⟨ret_b H.out, Below.drewN' ((Below.refl _ _).alloc (Nat.le_refl _) _) _⟩
end Go.Proofs.YtbfcdpabjailcaaGreatDoor

/- Package bitvec: Rank, Count, First. -/
namespace Go.Proofs.YtbfcdpabjailcaaGreatDoor
set_option maxRecDepth 100000
open Go.RowKit
set_option linter.unusedVariables false

theorem cnt_word (F : Nat → Bool) (q : Nat) : cnt (bw F q).testBit 64 = cnt (fun t => F (64 * q + t)) 64 :=
  cnt_congr _ fun k hk => by rw [testBit_bw, decide_eq_true hk, Bool.true_and]
theorem cnt_step (F : Nat → Bool) (q : Nat) : cnt F (64 * (q + 1)) = cnt F (64 * q) + cnt (bw F q).testBit 64 := by
  rw [cnt_word, Nat.mul_succ, cnt_add]
theorem cnt_zero (F : Nat → Bool) (n : Nat) (h : ∀ k, k < n → F k = false) : cnt F n = 0 := by
  rw [cnt_congr (G := fun _ => false) n h]
  induction n with
  | zero => rfl
  | succ n ih => rw [cnt, ih (fun k hk => h k (by omega))]; rfl
theorem cnt_low (F : Nat → Bool) (q r : Nat) (hr : r < 64) : cnt (bw F q &&& (2 ^ r - 1)).testBit 64 = cnt (fun t => F (64 * q + t)) r := by
  have h1 : cnt (bw F q &&& (2 ^ r - 1)).testBit 64 = cnt (bw F q &&& (2 ^ r - 1)).testBit (r + (64 - r)) := by rw [show r + (64 - r) = 64 by omega]
  rw [h1, cnt_add]
  rw [cnt_zero _ (64 - r) (fun k hk => by rw [Nat.testBit_and, Nat.testBit_two_pow_sub_one]; simp), Nat.add_zero]
  exact cnt_congr _ fun k hk => by rw [Nat.testBit_and, Nat.testBit_two_pow_sub_one, testBit_bw]; simp [hk]; omega
theorem rank_split (F : Nat → Bool) (m q r : Nat) (h : m = 64 * q + r) : cnt F m = cnt F (64 * q) + cnt (fun t => F (64 * q + t)) r := by subst h; exact cnt_add F (64 * q) r

set_option maxHeartbeats 1000000 in
theorem rank_calls (v : Value) (l : List Bool) (a : Int) (m : Nat) (hm : min (max a 0) l.length = (m : Int)) (w : World) (hv : IsBits w v l) (hl : l.length ≤ 1048576) :
    Calls Tryz.prog 134 #[v, .int .i64 a] w fun e w' => e = .returned (.int .i64 (cnt (sq l) m : Nat)) ∧ Below w.heap.size w w' := by
  obtain ⟨ao, cap, rfl, hcells⟩ := hv.opened
  obtain ⟨L, hL⟩ : ∃ L, (l.length + 63) / 64 = L := ⟨_, rfl⟩
  rw [hL] at hcells ⊢
  have hml : m ≤ l.length := by omega
  obtain ⟨q, hq⟩ : ∃ q : Nat, (m : Int) / 64 = (q : Int) := ⟨m / 64, by omega⟩
  obtain ⟨r, hr⟩ : ∃ r : Nat, (m : Int) % 64 = (r : Int) := ⟨m % 64, by omega⟩
  have hr64 : r < 64 := by omega
  have hqL : q ≤ L := by omega
  have hq2 : q ≤ 16384 := by omega
  have HQL := Lib.hid (show 0 < r → q < L by omega)
  have HM := Lib.hid hm
  have HE := Lib.hid (rank_split (sq l) m q r (by omega))
  obtain ⟨W0, hW0⟩ : ∃ W0, W0 = w.alloc (.cells #[.int .i64 l.length, .slice ao L cap] 78) := ⟨_, rfl⟩
  have hP0 : Hid (At2 W0 w.heap.size (.int .i64 l.length) (.slice ao L cap)) := Lib.hid (by rw [hW0]; exact At2.new _ _ _ _)
  have HW : Hid (Below w.heap.size w W0) := Lib.hid (by rw [hW0]; exact (Below.refl _ _).alloc (Nat.le_refl _) _)
  have HC : Hid (∀ i, i < L → ∃ b off, ao = some ⟨b, off, none⟩ ∧ W0.cell? ⟨b, off + i, none⟩ = some (.int .u64 (bw (sq l) i : Nat))) := Lib.hid (fun i hi => by
    obtain ⟨b, off, e, hc⟩ := hcells i hi
    exact ⟨b, off, e, keep_below HW.out _ _ hc⟩)
  clear hcells hv hm hL
  go_enter Tryz.func134, Tryz.ntmps134
  go_wp2_with (go_at_call 137; refine (clamp_nat _ _ m HM.out _).mono ?_; rintro e w' ⟨rfl, rfl⟩)
  rw [← hW0]
  try simp only [hq]
  clear hW0
  go_loop [5, 14] (fun c i => ∃ k : Nat, k ≤ q ∧ i = .int .i64 k ∧ c = .int .i64 (cnt (sq l) (64 * k) : Nat)) (fun _ i => q - (intOf i).toNat)
  case atStart => exact ⟨0, by omega, rfl, rfl⟩
  case round =>
    obtain ⟨k, hk, rfl, rfl⟩ := hrel
    obtain ⟨pl, p0, p1, pf⟩ := hP0.out
    clear pf
    have hcnt := cnt_le (sq l) (64 * k)
    by_cases hlt : k < q
    · obtain ⟨b, off, rfl, hcl⟩ := HC.out k (by omega)
      have hbw := bw_lt (sq l) k
      have hc2 := cnt_le (bw (sq l) k).testBit 64
      have HS := Lib.hid (cnt_step (sq l) k)
      go_wp2_with (go_at_call 138; refine (onesCount_calls _ ?_ _).mono ?_; exact hbw; rintro e w' ⟨rfl, rfl⟩)
      go_round
      case rel => exact ⟨k + 1, by omega, by go_num, by rw [HS.out]; go_num⟩
      case measure => simp [intOf]; omega
    · have hkq : k = q := by omega
      have hcq : cnt (sq l) (64 * k) = cnt (sq l) (64 * q) := by rw [hkq]
      have HCQ := Lib.hid hcq
      clear hkq hcq
      rcases Nat.eq_zero_or_pos r with hr0 | hr0
      · have hr' : (m : Int) % 64 = 0 := by omega
        have HE0 := Lib.hid (show cnt (sq l) m = cnt (sq l) (64 * k) by rw [HE.out, hr0, HCQ.out]; rfl)
        clear hr hr0
        go_wp2
        go_ret
        exact ⟨ret_i (by rw [HE0.out]), HW.out⟩
      · obtain ⟨b, off, rfl, hcl⟩ := HC.out q (HQL.out hr0)
        have HA0 := (u64_and_nat (bw (sq l) q) (2 ^ r - 1) (bw_lt _ _) (Nat.lt_of_lt_of_le (Nat.sub_lt (Nat.two_pow_pos _) (by decide)) (show 2 ^ r ≤ 2 ^ 64 from Nat.pow_le_pow_right (by decide) (by omega))))
        rw [Nat.and_two_pow_sub_one_eq_mod] at HA0
        have HA := Lib.hid HA0
        clear HA0
        have hLo0 := cnt_low (sq l) q r hr64
        rw [Nat.and_two_pow_sub_one_eq_mod] at hLo0
        have HLo := Lib.hid hLo0
        clear hLo0
        have hlt2 : bw (sq l) q % 2 ^ r < 18446744073709551616 := Nat.lt_of_le_of_lt (Nat.mod_le _ _) (bw_lt _ _)
        have hc3 := cnt_le (bw (sq l) q % 2 ^ r).testBit 64
        have hqL' : q < L := HQL.out hr0
        have q1 : IntKind.i64.wrap (q : Int) = q := IntWalk.i64_in _ (by omega)
        have q2 : IntKind.i64.wrap ((cnt (sq l) (64 * k) : Int) + (cnt (bw (sq l) q % 2 ^ r).testBit 64 : Int)) = (cnt (sq l) (64 * k) : Int) + (cnt (bw (sq l) q % 2 ^ r).testBit 64 : Int) := IntWalk.i64_in _ (by omega)
        go_wp2
        go_quiet ((first | (go_at_call 139; exact Calls.quiet_of_same (stl (low_nat r hr64 _))) | (go_at_call 138; rw [HA.out]; exact Calls.quiet_of_same (stl (onesCount_calls _ hlt2 _)))))
        go_wp2
        go_ret
        exact ⟨ret_i (by rw [HE.out, ← HCQ.out, ← HLo.out]; omega), Below.drewN' HW.out _⟩

set_option maxHeartbeats 1000000 in
theorem count_calls (v : Value) (l : List Bool) (w : World) (hv : IsBits w v l) (hl : l.length ≤ 1048576) :
    Calls Tryz.prog 129 #[v] w fun e w' => e = .returned (.int .i64 (cnt (sq l) l.length : Nat)) ∧ Below w.heap.size w w' := by
  have HV := Lib.hid hv
  obtain ⟨ao, cap, rfl, hcells⟩ := hv.opened
  clear hv hcells
  go_enter Tryz.func129, Tryz.ntmps129
  go_wp2_with fail
  refine (rank_calls _ l _ l.length (by omega) _ (HV.out.keep (keep_alloc _ _)) hl).mono ?_
  rintro e w1 ⟨rfl, hB⟩
  have HB := Lib.hid (((Below.refl w.heap.size w).alloc (Nat.le_refl _) (.cells #[.int .i64 l.length, .slice ao ((l.length + 63) / 64) cap] 78)).trans (hB.mono (by simp)))
  clear hB
  go_wp2
  go_ret
  exact ⟨rfl, HB.out⟩

theorem ctz_spec (x : Nat) (h0 : x ≠ 0) (h : x < 18446744073709551616) : Lib.ctz 64 x < 64 ∧ x.testBit (Lib.ctz 64 x) = true ∧ (∀ j, j < Lib.ctz 64 x → x.testBit j = false) ∧ ∀ j, (x &&& (x - 1)).testBit j = (x.testBit j && decide (Lib.ctz 64 x < j)) := by
  obtain ⟨m, hm, hk⟩ := Lib.ctzFrom_spec 64 x (by omega) h
  have e : Lib.ctz 64 x = Lib.ctzFrom 64 x := by simp [Lib.ctz, h0]
  rw [e]
  generalize Lib.ctzFrom 64 x = t at *
  have ht (j : Nat) : x.testBit j = (decide (t ≤ j) && (2 * m + 1).testBit (j - t)) := by rw [hm, Nat.testBit_two_pow_mul]
  have hx1 : x - 1 = 2 ^ t * (2 * m) + (2 ^ t - 1) := by
    have := Nat.two_pow_pos t
    rw [hm, Nat.mul_add, Nat.mul_one]; omega
  have ht1 (j : Nat) : (x - 1).testBit j = if j < t then true else (2 * m).testBit (j - t) := by
    rw [hx1, Nat.testBit_two_pow_mul_add (2 * m) (b := 2 ^ t - 1) (by have := Nat.two_pow_pos t; omega), Nat.testBit_two_pow_sub_one]
    split <;> rename_i h <;> simp [h]
  refine ⟨hk, ?_, fun j hj => ?_, fun j => ?_⟩
  · rw [ht]; simp [Nat.testBit_zero]
  · rw [ht]; simp; omega
  · rw [Nat.testBit_and, ht1, ht]
    by_cases h1 : j < t
    · simp [h1, show ¬ t ≤ j by omega]
    · by_cases h2 : j = t
      · subst h2; simp [Nat.testBit_zero]
      · obtain ⟨i, hi⟩ : ∃ i, j - t = i + 1 := ⟨j - t - 1, by omega⟩
        rw [if_neg h1, hi, Nat.testBit_succ, Nat.testBit_succ]
        simp only [show (2 * m + 1) / 2 = m by omega, show 2 * m / 2 = m by omega, decide_eq_true (show t ≤ j by omega), decide_eq_true (show t < j by omega)]
        cases m.testBit i <;> rfl

end Go.Proofs.YtbfcdpabjailcaaGreatDoor

/- The reference of layer 2: Into, Truth, Ones. -/
namespace Go.Proofs.YtbfcdpabjailcaaGreatDoor
set_option maxRecDepth 100000
open Go.RowKit
set_option linter.unusedVariables false

/-- A number brought between two. -/
def into (n least most : Int) : Int := if n < least then least else if most < n then most else n
/-- The places below k that are true. -/
def onesTo (F : Nat → Bool) (k : Nat) : List Int := ((List.range k).filter F).map fun j : Nat => (j : Int)
theorem onesTo_hit {F : Nat → Bool} {k : Nat} (h : F k = true) : onesTo F (k + 1) = onesTo F k ++ [(k : Int)] := by
  simp [onesTo, List.range_succ, List.filter_append, h]
theorem onesTo_miss {F : Nat → Bool} {k : Nat} (h : F k = false) : onesTo F (k + 1) = onesTo F k := by
  simp [onesTo, List.range_succ, List.filter_append, h]
theorem onesTo_le (F : Nat → Bool) (k : Nat) : (onesTo F k).length ≤ k := by
  have := List.length_filter_le F (List.range k)
  simp only [List.length_range] at this
  simpa [onesTo] using this
end Go.Proofs.YtbfcdpabjailcaaGreatDoor

/- Package bitvec: Ones. -/
namespace Go.Proofs.YtbfcdpabjailcaaGreatDoor
set_option maxRecDepth 100000
open Go.RowKit
set_option linter.unusedVariables false

theorem onesTo_skip {F : Nat → Bool} {a : Nat} : ∀ d, (∀ j, a ≤ j → j < a + d → F j = false) → onesTo F (a + d) = onesTo F a
  | 0, _ => rfl
  | d + 1, h => by
    rw [← Nat.add_assoc, onesTo_miss (h (a + d) (by omega) (by omega))]
    exact onesTo_skip d fun j h1 h2 => h j h1 (by omega)
theorem onesTo_skip' {F : Nat → Bool} {a b : Nat} (hab : a ≤ b) (h : ∀ j, a ≤ j → j < b → F j = false) : onesTo F b = onesTo F a := by
  obtain ⟨d, rfl⟩ := Nat.exists_eq_add_of_le hab
  exact onesTo_skip d h

/-- What is left of word k from bit t on. -/
def Left (F : Nat → Bool) (k t x : Nat) : Prop := x < 18446744073709551616 ∧ ∀ j, j < 64 → x.testBit j = (decide (t ≤ j) && F (64 * k + j))
theorem Left.start (F : Nat → Bool) (k : Nat) : Left F k 0 (bw F k) := ⟨bw_lt _ _, fun j hj => by rw [testBit_bw]; simp [hj]⟩
theorem Left.done {F : Nat → Bool} {k t : Nat} (h : Left F k t 0) (ht : t ≤ 64) : onesTo F (64 * (k + 1)) = onesTo F (64 * k + t) := by
  refine onesTo_skip' (by omega) fun j h1 h2 => ?_
  have := h.2 (j - 64 * k) (by omega)
  rw [Nat.zero_testBit, decide_eq_true (by omega), Bool.true_and, show 64 * k + (j - 64 * k) = j by omega] at this
  exact this.symm
theorem Left.next {F : Nat → Bool} {k t x : Nat} (h : Left F k t x) (h0 : x ≠ 0) :
    ∃ c, c = Lib.ctz 64 x ∧ t ≤ c ∧ c < 64 ∧ onesTo F (64 * k + (c + 1)) = onesTo F (64 * k + t) ++ [((64 * k + c : Nat) : Int)] ∧ Left F k (c + 1) (x &&& (x - 1)) := by
  obtain ⟨c1, c2, c3, c4⟩ := ctz_spec x h0 h.1
  generalize Lib.ctz 64 x = c at *
  have e := h.2 c c1
  rw [c2] at e
  have htc : t ≤ c := by
    apply Nat.le_of_not_lt; intro hlt; rw [decide_eq_false (by omega)] at e; simp at e
  have hF : F (64 * k + c) = true := by rw [decide_eq_true htc, Bool.true_and] at e; exact e.symm
  refine ⟨c, rfl, htc, c1, ?_, ?_, ?_⟩
  · rw [← Nat.add_assoc, onesTo_hit hF]
    congr 1
    refine onesTo_skip' (by omega) fun j h1 h2 => ?_
    have := h.2 (j - 64 * k) (by omega)
    rw [c3 _ (by omega), decide_eq_true (by omega), Bool.true_and, show 64 * k + (j - 64 * k) = j by omega] at this
    exact this.symm
  · exact Nat.lt_of_le_of_lt Nat.and_le_left h.1
  · intro j hj
    rw [c4, h.2 j hj]
    by_cases h1 : c < j
    · simp [h1, show t ≤ j by omega, show c + 1 ≤ j by omega]
    · simp [h1, show ¬ c + 1 ≤ j by omega]

set_option maxHeartbeats 2000000 in
theorem ones_slc (v : Value) (l : List Bool) (w : World) (hv : IsBits w v l) (hl : l.length ≤ 1048576) (hT : TabAt w) :
    Calls Tryz.prog 115 #[v] w fun e w' => ∃ v, e = .returned v ∧ Slc w' (fun b => w.heap.size ≤ b) v (onesTo (sq l) l.length).length (ints (onesTo (sq l) l.length)) ∧ Below w.heap.size w w' := by
  obtain ⟨i0, hi, hz0, hz1, hz2⟩ := info_parts info_int
  have HV := Lib.hid hv
  obtain ⟨ao, cap, rfl, hcells⟩ := hv.opened
  obtain ⟨L, hL⟩ : ∃ L, (l.length + 63) / 64 = L := ⟨_, rfl⟩
  rw [hL] at hcells HV ⊢
  have hL2 : L ≤ 16384 := by omega
  have HL := Lib.hid (show onesTo (sq l) (64 * L) = onesTo (sq l) l.length from onesTo_skip' (by omega) fun j h1 _ => sq_out h1)
  have hcnt := cnt_le (sq l) l.length
  have HC := Lib.hid hcells
  clear hcells hv hL
  go_enter Tryz.func115, Tryz.ntmps115
  go_wp2_with fail
  refine (count_calls _ l _ (HV.out.keep (keep_alloc _ _)) hl).mono ?_
  rintro e w1 ⟨rfl, hB⟩
  have hA1 : Hid (At2 w1 w.heap.size (.int .i64 l.length) (.slice ao L cap)) := Lib.hid ((At2.new _ _ _ _).below hB)
  have hB1 : Hid (Below w.heap.size w w1) := Lib.hid (((Below.refl w.heap.size w).alloc (Nat.le_refl _) (.cells #[.int .i64 l.length, .slice ao L cap] 78)).trans (hB.mono (by simp)))
  have hs1 : w.heap.size + 1 ≤ w1.heap.size := by have := hB.size; simpa using this
  clear hB
  go_wp2_with ((with_reducible refine wpList_make_own _ rfl _ _ 22 rfl (w.heap.size + 1) 3 i0 (.int .i64 0) 1 Tryz.underlying22 hi hz0 hz1 .i64 .i64 _ (cnt (sq l) l.length) rfl rfl rfl ?_ ?_ ?_ ?_))
  · rw [hz2]; omega
  · unfold maxLen; omega
  · exact hs1
  intro w2 hown hgrow
  have hB2 : Below w1.heap.size w1 w2 := (Below.refl _ _).grown hgrow (Nat.le_refl _) (fun k hk => by cases hk)
  have hA2 : Hid (At2 w2 w.heap.size (.int .i64 l.length) (.slice ao L cap)) := Lib.hid (hA1.out.below hB2)
  have HB2 := Lib.hid (hB1.out.trans (hB2.mono hB1.out.size))
  have HO2 : Hid (w2.ownsRow (w.heap.size + 1) 3 1 (.slice (some ⟨w1.heap.size, 0, none⟩) 0 (cnt (sq l) l.length)) (onesTo (sq l) (64 * 0)).length (ints (onesTo (sq l) (64 * 0)))) := Lib.hid hown
  clear hown hgrow hB2
  obtain ⟨yl, y0, y1, yf⟩ := hA2.out
  clear yf
  go_wp2
  go_loopw [3, 12] (fun v i wr => ∃ k : Nat, k ≤ L ∧ i = .int .i64 k ∧ wr.ownsRow (w.heap.size + 1) 3 1 v (onesTo (sq l) (64 * k)).length (ints (onesTo (sq l) (64 * k))) ∧ At2 wr w.heap.size (.int .i64 l.length) (.slice ao L cap) ∧ Below w.heap.size w wr) (fun _ i _ => L - (intOf i).toNat)
  case atStart => exact ⟨0, by omega, rfl, HO2.out, hA2.out, HB2.out⟩
  case round =>
    obtain ⟨k, hk, rfl, hown, hA, hB⟩ := hrel
    have HO := Lib.hid hown
    have HA := Lib.hid hA
    have HB := Lib.hid hB
    obtain ⟨zl, z0, z1, zf⟩ := hA
    by_cases hlt : k < L
    · obtain ⟨b, off, rfl, hc⟩ := HC.out k hlt
      have hcl := keep_below HB.out _ _ hc
      clear zf hown hB hc
      go_wp2
      go_loopg [3, 5] 64 (fun g v u wq => ∃ t x : Nat, t + g = 64 ∧ u = .int .u64 (x : Nat) ∧ Left (sq l) k t x ∧ wq.ownsRow (w.heap.size + 1) 3 1 v (onesTo (sq l) (64 * k + t)).length (ints (onesTo (sq l) (64 * k + t))) ∧ At2 wq w.heap.size (.int .i64 l.length) (.slice (some ⟨b, off, none⟩) L cap) ∧ Below w.heap.size w wq)
      case atStart => exact ⟨0, _, by omega, rfl, Left.start _ _, HO.out, HA.out, HB.out⟩
      case round =>
        obtain ⟨t, x, htg, rfl, hleft, hown, hA, hB⟩ := hrel
        have HO' := Lib.hid hown
        have HA' := Lib.hid hA
        have HB' := Lib.hid hB
        have hxl := hleft.1
        have hlen := onesTo_le (sq l) (64 * k + t)
        have hszq := hB.size
        have hszq2 := hA.1
        by_cases hx : x = 0
        · have hx' : ((x : Int) != 0) = false := by rw [hx]; rfl
          have HE := Lib.hid (show onesTo (sq l) (64 * (k + 1)) = onesTo (sq l) (64 * k + t) by subst hx; exact hleft.done (by omega))
          clear hx hleft hown hA hB
          go_wp2
          go_roundw
          case rel => exact ⟨k + 1, by omega, by go_num, by rw [HE.out]; exact HO'.out, HA'.out, HB'.out⟩
          case measure => simp [intOf]; omega
        · have hx' : ((x : Int) != 0) = true := by simp; omega
          have hx1 : 1 ≤ x := by omega
          obtain ⟨c, hc, htc, hc64, hone, hnext⟩ := hleft.next hx
          have HC' := Lib.hid hc
          have HX := Lib.hid hx
          have H1 := Lib.hid hone
          have HN := Lib.hid hnext
          have HAnd := Lib.hid (show bits BinOp.and IntKind.u64 (x : Int) ((x : Int) - 1) = ((x &&& (x - 1) : Nat) : Int) by
            have := u64_and_nat x (x - 1) hxl (by omega)
            rwa [show ((x - 1 : Nat) : Int) = (x : Int) - 1 by omega] at this)
          have HT' : Hid (TabAt wr) := Lib.hid (fun j hj => keep_below HB'.out _ _ (hT j hj))
          have htr := fun w h => trailing_calls x hxl hx w h
          rw [← hc] at htr
          have HTR := Lib.hid htr
          clear hx hc hone hnext hleft hown hA hB htr
          go_wp2_with (first | (go_at_call 130; refine (HTR.out _ ?_).mono ?_; exact HT'.out; rintro e w' ⟨rfl, rfl⟩) | (at_builtin; refine wpList_append_own _ rfl _ _ 22 rfl (w.heap.size + 1) 3 i0 (.int .i64 0) 1 8 Tryz.underlying22 hi hz0 hz1 hz2 rfl (by decide) _ _ _ rfl (HO'.out.alloc _) ⟨wr.heap.size, 0, none⟩ 1 1 [.int .i64 ((k : Int) * 64 + (c : Int))] rfl rfl ?c1 ?c2 ?c3 ?c4 ?c5 ?_))
          case c1 =>
            intro j u hj
            match j, hj with
            | 0, hj => simp at hj; subst hj; simp [Addr.add]
          case c2 => intro u hu; simp at hu; subst hu; rfl
          case c3 => unfold maxLen; omega
          case c4 => omega
          case c5 => simp; omega
          intro v' w3 hown' hgrow _
          have HO3 := Lib.hid hown'
          have HB3 := Lib.hid (grown_below (HB'.out.alloc hszq _) (HO'.out.alloc _) (by omega) (by simp; omega) hgrow)
          have HA3 : Hid (At2 w3 w.heap.size (.int .i64 l.length) (.slice (some ⟨b, off, none⟩) L cap)) := Lib.hid ((HA'.out.alloc _).grown hgrow (fun e => by have := (World.ownsRow.lt HO'.out _ e.symm).1; omega))
          clear hown' hgrow
          go_wp2
          rw [HAnd.out]
          go_roundg (64 - (c + 1))
          case rel =>
            refine ⟨c + 1, _, by omega, rfl, HN.out, ?_, HA3.out, HB3.out⟩
            have := HO3.out
            rw [H1.out]
            have e : ((k : Int) * 64 + (c : Int)) = ((64 * k + c : Nat) : Int) := by omega
            rw [e] at this
            simpa [ints] using this
          case measure => omega
    · have hkL : k = L := by omega
      have HE := Lib.hid hkL
      clear hkL hown hB zf
      go_wp2
      go_ret
      refine ⟨_, rfl, ?_, HB.out⟩
      have := (Slc.owned HO.out).keep (Kept.refl _ _) (ok' := fun b => w.heap.size ≤ b) (fun b _ h => by omega)
      rwa [HE.out, HL.out] at this
end Go.Proofs.YtbfcdpabjailcaaGreatDoor

/- Package bitvec: Unpack. -/
namespace Go.Proofs.YtbfcdpabjailcaaGreatDoor
set_option maxRecDepth 100000
open Go.RowKit
set_option linter.unusedVariables false

end Go.Proofs.YtbfcdpabjailcaaGreatDoor

/- Package bitvec: Pack. -/
namespace Go.Proofs.YtbfcdpabjailcaaGreatDoor
set_option maxRecDepth 100000
open Go.RowKit
set_option linter.unusedVariables false

theorem bws_at {F : Nat → Bool} {K q z : Nat} (h : (bws F K)[q]? = some z) : z = bw F q := by
  obtain ⟨hl, e⟩ := List.getElem?_eq_some_iff.1 h
  rw [← e, bws_get]
theorem or_bit (z r : Nat) (hz : z < 18446744073709551616) (hr : r < 64) : bits BinOp.or IntKind.u64 (z : Int) (IntKind.u64.wrap (2 ^ r)) = ((z ||| 2 ^ r : Nat) : Int) := by
  have h1 : (2 : Nat) ^ r < 18446744073709551616 := Nat.pow_lt_pow_right (m := r) (n := 64) (by decide) hr
  have e : IntKind.u64.wrap (2 ^ r) = ((2 ^ r : Nat) : Int) := by
    rw [IntKind.wrap_u64, show ((2 : Int) ^ r) = ((2 ^ r : Nat) : Int) by simp]
    exact Int.emod_eq_of_lt (Int.natCast_nonneg _) (Int.ofNat_lt.2 h1)
  rw [e]; exact u64_or_nat z _ hz h1
theorem words_take (l : List Bool) (K : Nat) (h : (l.length + 63) / 64 = K) : bws (sq (l.take l.length)) K = words l := by subst h; rw [List.take_length]; rfl
theorem bws_nil (l : List Bool) (K : Nat) : bws (sq (l.take 0)) K = List.replicate K 0 := by
  apply List.ext_getElem (by simp [bws])
  intro i h1 h2
  rw [bws_get, List.getElem_replicate]
  symm; apply bw_ext _ _ _ (by decide); intro j hj; simp [sq]

set_option maxRecDepth 100000 in
set_option maxHeartbeats 1000000 in
theorem pack_fresh (v : Value) (l : List Bool) (w : World) (hv : Sl w v l.length (bools l)) (hl : l.length ≤ 1048576) :
    Calls Tryz.prog 83 #[v] w fun e w' => ∃ v, e = .returned v ∧ IsBitsX w' (fun b => w.heap.size + 1 ≤ b) v l ∧ Below w.heap.size w w' := by
  obtain ⟨K, hK⟩ : ∃ K, (l.length + 63) / 64 = K := ⟨_, rfl⟩
  have hK2 : K ≤ 20000 := by omega
  have HK := Lib.hid hK
  clear hK
  have hA := At2.new w (.int .i64 0) (.slice none 0 0) 78
  obtain ⟨_, ao, cap, rfl, hcells⟩ := hv
  have HC := Lib.hid hcells
  clear hcells
  go_enter Tryz.func83, Tryz.ntmps83
  go_wp2_with fail
  refine (blank_K l.length K (by omega) HK.out _).mono ?_
  rintro e w1 ⟨g, rfl, ho, hB⟩
  have hg := ho.ge
  simp only [World.size_alloc] at hg
  have hgl := ho.lt
  obtain ⟨W0, hW0⟩ : ∃ W0, W0 = w1.alloc (.cells #[.int .i64 l.length, .slice (some ⟨g, 0, none⟩) K K] 78) := ⟨_, rfl⟩
  have hA0 : Hid (At2 W0 w.heap.size (.int .i64 0) (.slice none 0 0)) := Lib.hid (by rw [hW0]; exact (hA.below hB).alloc _)
  have hZ0 : Hid (At2 W0 w1.heap.size (.int .i64 l.length) (.slice (some ⟨g, 0, none⟩) K K)) := Lib.hid (by rw [hW0]; exact At2.new _ _ _ _)
  have HO : Hid (Own W0 _ g K (List.replicate K 0)) := Lib.hid (by rw [hW0]; exact ho.alloc _)
  have HW : Hid (Below w.heap.size w W0) := Lib.hid (by rw [hW0]; exact (((Below.refl _ _).alloc (Nat.le_refl _) _).trans (hB.mono (by simp))).alloc (by have := hB.size; simp at this; omega) _)
  clear ho hB hA
  go_wp2
  rw [← hW0]
  clear hW0
  go_loopw [11] (fun i wr => ∃ k : Nat, k ≤ l.length ∧ i = .int .i64 k ∧ Own wr (w.heap.size + 1) g K (bws (sq (l.take k)) K) ∧ W0.grownBy wr (some g)) (fun i _ => l.length - (intOf i).toNat)
  case atStart => exact ⟨0, by omega, rfl, by rw [bws_nil]; simpa using HO.out, grown_refl _ _⟩
  case round =>
    obtain ⟨k, hk, rfl, hown, hgr⟩ := hrel
    have HO' := Lib.hid hown
    have HG := Lib.hid hgr
    obtain ⟨zl, z0, z1, zf⟩ := hZ0.out.grown hgr (by simp; omega)
    have hBr := Lib.hid (HW.out.grown hgr HW.out.size (fun j hj => by cases hj; omega))
    by_cases hlt : k < l.length
    · obtain ⟨b, off, rfl, hc⟩ := HC.out k (by rw [bools_len]; exact hlt)
      have hcl := keep_below hBr.out _ _ hc
      rw [bools_get] at hcl
      obtain ⟨q, hq⟩ : ∃ q, q = k / 64 := ⟨_, rfl⟩
      obtain ⟨r, hr⟩ : ∃ r, r = k % 64 := ⟨_, rfl⟩
      have hk64 : q < K := by have := HK.out; omega
      obtain ⟨z, hz, hzc⟩ := hown.cellz q hk64
      have hfr := hown.free q
      have HZ := Lib.hid hz
      have q1 : IntKind.i64.wrap (q : Int) = q := by rw [IntKind.wrap_i64]; omega
      have q2 : (k : Int).tmod 64 = r := by rw [Int.tmod_eq_emod_of_nonneg (by omega)]; omega
      have q3 : (k : Int) % 64 = r := by omega
      have q4 : r < 64 := by omega
      have q5 : (k : Int) / 64 = q := by omega
      have HQ := Lib.hid hq
      have HR := Lib.hid hr
      clear hq hr
      clear zf hown hgr hc hz
      cases hb : l[k]
      · rw [hb] at hcl
        have HB := Lib.hid hb
        clear hb
        go_wp2
        go_roundw
        case rel => exact ⟨k + 1, by omega, by go_num, by rw [← bws_miss l K k hlt HB.out]; exact HO'.out, HG.out⟩
        case measure => simp [intOf]; omega
      · rw [hb] at hcl
        have HB := Lib.hid hb
        clear hb
        go_wp2
        refine still_tail 11 (by kernel_rfl) (by kernel_rfl) ?_
        simp only [List.take_succ_cons, List.take_zero, List.drop_succ_cons, List.drop_zero]
        repeat (refine wpStill_step (fun K hK => ?_); go_simp; (refine hK _ ?_; clear hK K))
        refine wpStill_nil ?_
        go_wp2
        go_roundw
        case rel =>
          refine ⟨k + 1, by omega, by go_num, ?_, grown_drew (grown_trans HG.out (grown_setCell _ ⟨g, q, none⟩ _))⟩
          have hz := bws_at HZ.out
          rw [or_bit z r (by rw [hz]; exact bw_lt _ _) q4, ← bws_hit l K k hlt HB.out, ← HQ.out, ← HR.out, ← hz]
          exact (HO'.out.set q _).drew
        case measure => simp [intOf]; omega
    · have hkl : k = l.length := by omega
      obtain ⟨al, a0, a1, af⟩ := hA0.out.grown HG.out (by simp; omega)
      have af0 := af 0
      have af1 := af 1
      clear zf hown hgr af
      go_wp2
      refine bodyPost_ret (v := .agg #[.int .i64 l.length, .slice (some ⟨g, 0, none⟩) K K]) (by simp [results, Tryz.results83, go_sem, a0, a1]) rfl ⟨_, rfl, ?_, below_set2 _ _ hBr.out (Nat.le_refl _)⟩
      exact finish_bitsX _ _ HO'.out (by rw [hkl]; exact words_take l K HK.out) rfl HK.out (by omega)
end Go.Proofs.YtbfcdpabjailcaaGreatDoor

/- Two slices compared: slices.Equal, the references' Bools, Nums, Ints; bitvec.Equal. -/
namespace Go.Proofs.YtbfcdpabjailcaaGreatDoor
set_option maxRecDepth 100000
open Go.RowKit
set_option linter.unusedVariables false

theorem take_step {α : Type} {xs ys : List α} {k : Nat} (h1 : k < xs.length) (h2 : k < ys.length) (h : xs.take k = ys.take k) (e : xs[k] = ys[k]) : xs.take (k + 1) = ys.take (k + 1) := by
  rw [List.take_succ_eq_append_getElem h1, List.take_succ_eq_append_getElem h2, h, e]
theorem ne_at {α : Type} [BEq α] [LawfulBEq α] {xs ys : List α} {k : Nat} (h1 : k < xs.length) (h2 : k < ys.length) (e : xs[k] ≠ ys[k]) : (xs == ys) = false := by
  rw [beq_eq_false_iff_ne]; intro h; subst h; exact e rfl
theorem ne_len {α : Type} [BEq α] [LawfulBEq α] {xs ys : List α} (e : xs.length ≠ ys.length) : (xs == ys) = false := by
  rw [beq_eq_false_iff_ne]; intro h; subst h; exact e rfl
theorem eq_all {α : Type} [BEq α] [LawfulBEq α] {xs ys : List α} {k : Nat} (h1 : xs.length ≤ k) (h2 : ys.length ≤ k) (h : xs.take k = ys.take k) : (xs == ys) = true := by
  rw [List.take_of_length_le h1, List.take_of_length_le h2] at h; simp [h]

end Go.Proofs.YtbfcdpabjailcaaGreatDoor

/- append to a slice of the call's own: the block that it lies in afterwards is the old one, or new. -/
namespace Go.Proofs.YtbfcdpabjailcaaGreatDoor
set_option maxRecDepth 100000
open Go.RowKit
set_option linter.unusedVariables false

section
variable {P : Program}
theorem append_block {w : World} (base : Nat) (t ty e : TypeId) (i : TypeInfo) (z : Value) (size bytes : Nat) (ht : P.underlying t = some (.slice e)) (hi : P.info? e = some i) (hz : i.zero = some z)
    (hsize : i.size = size) (hby : i.bytes = bytes) (hzs : z.cells.size = size) (hsz : 0 < size) {v : Value} {n : Nat} {xs : List Value} (hown : w.ownsRow base e size v n xs)
    (a : Addr) (m c : Nat) (news : List Value) (hl : news.length = m * size) (hnews : ∀ j u, news[j]? = some u → w.cell? (a.add j) = some u) (h1 : ∀ u ∈ news, u.oneCell' = true)
    (h63 : n + m ≤ maxLen) (hbytes : (n + m) * bytes ≤ 140737488355328) {v' : Value} {w' : World} (hr : (Builtin.append_ #[t, t] ty #[v, .slice (some a) m c]).run P w = .ok v' w') :
    ∀ k, v'.ownBlock = some k → v.ownBlock = some k ∨ w.heap.size ≤ k := by
  intro k hk
  rcases hown.2 with ⟨rfl, rfl⟩ | ⟨g, cap, cur, rfl, _, hg, _, _, hcs, _⟩
  · have hx : xs = [] := List.eq_nil_of_length_eq_zero (by simpa using hown.1)
    subst hx
    obtain ⟨v1, w1, hr1, ho1, _⟩ := run_append_own (P := P) w w.heap.size t ty e i z size bytes ht hi hz hsize hby hzs hsz _ 0 [] (World.ownsRow_nil _ _ _ _) a m c news hl hnews h1 h63 hbytes (Nat.le_refl _)
    rw [hr1] at hr
    cases hr
    exact .inr (ho1.lt k hk).1
  · by_cases hroom : n + m ≤ cap
    · have hfit : n * i.size + news.length ≤ cur.size := by rw [hl, hcs, hsize, ← Nat.add_mul]; exact Nat.mul_le_mul_right _ hroom
      have h2 := run_append_room (P := P) w t ty e i ht hi g n cap cur hg a m c news (by rw [hsize]; exact hl) hnews h1 hroom hfit
      rw [h2] at hr
      cases hr
      exact .inl hk
    · have h2 := run_append_grow (P := P) w t ty e i z ht hi hz ⟨g, 0, none⟩ n cap xs (by rw [hsize]; exact hown.1) (hown.cells (g := g) rfl) a m c news (by rw [hsize]; exact hl) hnews (by omega) (by unfold maxLen at h63; omega) (growslice_fits (by omega) (by rw [hby]; exact hbytes))
      rw [h2] at hr
      cases hr
      simp only [Value.ownBlock, Option.some.injEq] at hk
      exact .inr (by omega)
theorem wp_append_blk (w : World) {o : Oper} {a : Act} {K : Act → World → Prop} {Q : Exit → Act → World → Prop} (s x : Operand) (t : TypeId) (ho : o.op = .call { callee := .builtin .append, args := #[s, x], argTypes := #[t, t] })
    (base : Nat) (e : TypeId) (i : TypeInfo) (z : Value) (size bytes : Nat) (ht : P.underlying t = some (.slice e)) (hi : P.info? e = some i) (hz : i.zero = some z) (hsize : i.size = size) (hby : i.bytes = bytes) (hzs : z.cells.size = size) (hsz : 0 < size)
    (v : Value) (n : Nat) (xs : List Value) (hs : a.eval s = v) (hown : w.ownsRow base e size v n xs) (ad : Addr) (m c : Nat) (news : List Value) (hx : a.eval x = .slice (some ad) m c) (hl : news.length = m * size)
    (hnews : ∀ j u, news[j]? = some u → w.cell? (ad.add j) = some u) (h1 : ∀ u ∈ news, u.oneCell' = true) (h63 : n + m ≤ maxLen) (hbytes : (n + m) * bytes ≤ 140737488355328) (hbase : base ≤ w.heap.size)
    (h : ∀ v' w', w'.ownsRow base e size v' (n + m) (xs ++ news) → w.grownBy w' v.ownBlock → (∀ k, v'.ownBlock = some k → v.ownBlock = some k ∨ w.heap.size ≤ k) → K (a.put o.dst v') w') : o.wp P a w K Q := by
  obtain ⟨v', w', hr, h2, h3, _⟩ := run_append_own (P := P) w base t o.type e i z size bytes ht hi hz hsize hby hzs hsz v n xs hown ad m c news hl hnews h1 h63 hbytes hbase
  have h4 := append_block (P := P) base t o.type e i z size bytes ht hi hz hsize hby hzs hsz hown ad m c news hl hnews h1 h63 hbytes hr
  have hk := h v' w' h2 h3 h4
  suffices hg : Oper.upon P o a K Q (Result.ok (Next.value v') w') by simpa [Oper.wp, execOp, ho, resolve, invoke, builtin, hs, hx, hr] using hg
  exact hk
theorem wpList_append_blk (w : World) {ops : Array Oper} {rest : List Oper} {o : Oper} {a : Act} {Q : Exit → Act → World → Prop} (hgd : o.guard = none) (s x : Operand) (t : TypeId) (ho : o.op = .call { callee := .builtin .append, args := #[s, x], argTypes := #[t, t] })
    (base : Nat) (e : TypeId) (i : TypeInfo) (z : Value) (size bytes : Nat) (ht : P.underlying t = some (.slice e)) (hi : P.info? e = some i) (hz : i.zero = some z) (hsize : i.size = size) (hby : i.bytes = bytes) (hzs : z.cells.size = size) (hsz : 0 < size)
    (v : Value) (n : Nat) (xs : List Value) (hs : a.eval s = v) (hown : w.ownsRow base e size v n xs) (ad : Addr) (m c : Nat) (news : List Value) (hx : a.eval x = .slice (some ad) m c) (hl : news.length = m * size)
    (hnews : ∀ j u, news[j]? = some u → w.cell? (ad.add j) = some u) (h1 : ∀ u ∈ news, u.oneCell' = true) (h63 : n + m ≤ maxLen) (hbytes : (n + m) * bytes ≤ 140737488355328) (hbase : base ≤ w.heap.size)
    (h : ∀ v' w', w'.ownsRow base e size v' (n + m) (xs ++ news) → w.grownBy w' v.ownBlock → (∀ k, v'.ownBlock = some k → v.ownBlock = some k ∨ w.heap.size ≤ k) → wpList P ops Q rest (a.put o.dst v') w') : wpList P ops Q (o :: rest) a w :=
  wpList_plain hgd fun _ hK => wp_append_blk w s x t ho base e i z size bytes ht hi hz hsize hby hzs hsz v n xs hs hown ad m c news hx hl hnews h1 h63 hbytes hbase fun v' w' h2 h3 h4 => hK _ _ (h v' w' h2 h3 h4)
/-- .. as one step of a region that draws. -/
theorem step_append_blk {ops : Array Oper} {o : Oper} {a : Act} {w : World} {K : Act → World → Prop} {Q : Exit → Act → World → Prop} {E : Prop}
    (hg : o.guard = none) (s x : Operand) (t : TypeId) (ho : o.op = .call { callee := .builtin .append, args := #[s, x], argTypes := #[t, t] })
    (base : Nat) (e : TypeId) (i : TypeInfo) (z : Value) (size bytes : Nat) (ht : P.underlying t = some (.slice e)) (hi : P.info? e = some i) (hz : i.zero = some z) (hsize : i.size = size) (hby : i.bytes = bytes) (hzs : z.cells.size = size) (hsz : 0 < size)
    (v : Value) (n : Nat) (xs : List Value) (hs : a.eval s = v) (hown : w.ownsRow base e size v n xs) (ad : Addr) (m c : Nat) (news : List Value) (hx : a.eval x = .slice (some ad) m c) (hl : news.length = m * size)
    (hnews : ∀ j u, news[j]? = some u → w.cell? (ad.add j) = some u) (h1 : ∀ u ∈ news, u.oneCell' = true) (h63 : n + m ≤ maxLen) (hbytes : (n + m) * bytes ≤ 140737488355328) (hbase : base ≤ w.heap.size)
    (h : ∀ v' w', w'.ownsRow base e size v' (n + m) (xs ++ news) → w.grownBy w' v.ownBlock → (∀ k, v'.ownBlock = some k → v.ownBlock = some k ∨ w.heap.size ≤ k) → K (a.put o.dst v') w') :
    if Region.wanted o (yielded ops a.tmps) = true then Oper.wp P o a w K Q else E := by
  have hw : Region.wanted o (yielded ops a.tmps) = true := by simp [Region.wanted, hg]
  rw [if_pos hw]
  exact wp_append_blk w s x t ho base e i z size bytes ht hi hz hsize hby hzs hsz v n xs hs hown ad m c news hx hl hnews h1 h63 hbytes hbase h
end
section
variable {P : Program}
end
theorem owns_form {w : World} {base size : Nat} {e : TypeId} {v : Value} {n : Nat} {xs : List Value} (h : w.ownsRow base e size v n xs) : ∃ ao cap, v = .slice ao n cap := by
  rcases h.2 with ⟨rfl, rfl⟩ | ⟨g, cap, cur, rfl, _⟩
  · exact ⟨_, _, rfl⟩
  · exact ⟨_, _, rfl⟩
end Go.Proofs.YtbfcdpabjailcaaGreatDoor

/- Package bitvec: Cut. -/
namespace Go.Proofs.YtbfcdpabjailcaaGreatDoor
set_option maxRecDepth 100000
open Go.RowKit
set_option linter.unusedVariables false

end Go.Proofs.YtbfcdpabjailcaaGreatDoor

/- The number of ones of a word, summed by pairs, fours, bytes: plain mathematics. -/
import Derived.Test.YtbdhibcbpgjbmaaGreatDoorBvM
namespace Go.Proofs.YtbdhibcbpgjbmaaGreatDoor
set_option maxRecDepth 100000
set_option linter.unusedVariables false

theorem testBit_split (x0 x1 : Nat) (h : x0 < 256) (j : Nat) : (x0 + 256 * x1).testBit j = if j < 8 then x0.testBit j else x1.testBit (j - 8) := by
  have := Nat.testBit_two_pow_mul_add x1 (i := 8) (b := x0) h j
  rwa [Nat.add_comm, show (2 : Nat) ^ 8 = 256 from rfl] at this
theorem and_split (x0 x1 m0 m1 : Nat) (h : x0 < 256) (hm : m0 < 256) : (x0 + 256 * x1) &&& (m0 + 256 * m1) = (x0 &&& m0) + 256 * (x1 &&& m1) := by
  apply Nat.eq_of_testBit_eq; intro j
  rw [Nat.testBit_and, testBit_split _ _ h, testBit_split _ _ hm, testBit_split _ _ (Nat.lt_of_le_of_lt Nat.and_le_left h)]
  split <;> rw [Nat.testBit_and]

/-- Eight bytes. -/
def byt (a b c d e f g h : Nat) : Nat := a + 256 * (b + 256 * (c + 256 * (d + 256 * (e + 256 * (f + 256 * (g + 256 * h))))))
theorem and_byt (a b c d e f g h m : Nat) (ha : a < 256) (hb : b < 256) (hc : c < 256) (hd : d < 256) (he : e < 256) (hf : f < 256) (hg : g < 256) (hm : m < 256) :
    byt a b c d e f g h &&& byt m m m m m m m m = byt (a &&& m) (b &&& m) (c &&& m) (d &&& m) (e &&& m) (f &&& m) (g &&& m) (h &&& m) := by
  unfold byt
  rw [and_split _ _ _ _ ha hm, and_split _ _ _ _ hb hm, and_split _ _ _ _ hc hm, and_split _ _ _ _ hd hm, and_split _ _ _ _ he hm, and_split _ _ _ _ hf hm, and_split _ _ _ _ hg hm]
theorem byt_div (a b c d e f g h s q : Nat) (hsq : s * q = 256) (ha : a < 256) (hb : b < 256) (hc : c < 256) (hd : d < 256) (he : e < 256) (hf : f < 256) (hg : g < 256) (hq : q = 128 ∨ q = 64 ∨ q = 16) :
    byt a b c d e f g h / s = byt (a / s + q * (b % s)) (b / s + q * (c % s)) (c / s + q * (d % s)) (d / s + q * (e % s)) (e / s + q * (f % s)) (f / s + q * (g % s)) (g / s + q * (h % s)) (h / s) := by
  unfold byt
  rcases hq with rfl | rfl | rfl
  · obtain rfl : s = 2 := by omega
    omega
  · obtain rfl : s = 4 := by omega
    omega
  · obtain rfl : s = 16 := by omega
    omega
theorem s1 : ∀ (a : Fin 256) (b : Fin 2), (a.val / 2 + 128 * b.val) &&& 85 = (a.val / 2) &&& 85 := by decide +kernel
theorem s2 : ∀ (a : Fin 256) (b : Fin 4), (a.val / 4 + 64 * b.val) &&& 51 = (a.val / 4) &&& 51 := by decide +kernel
def p1 (a : Nat) : Nat := ((a / 2) &&& 85) + (a &&& 85)
def p2 (a : Nat) : Nat := ((a / 4) &&& 51) + (a &&& 51)
theorem p1_le : ∀ a : Fin 256, p1 a.val ≤ 170 := by decide +kernel
theorem p2_le : ∀ a : Fin 256, p2 (p1 a.val) ≤ 68 ∧ p2 (p1 a.val) % 16 ≤ 4 := by decide +kernel
theorem p3 : ∀ (a : Fin 256) (b : Fin 5), (p2 (p1 a.val) / 16 + 16 * b.val + p2 (p1 a.val)) &&& 15 = Lib.popAux 8 a.val := by decide +kernel
theorem pop8_le : ∀ a : Fin 256, Lib.popAux 8 a.val ≤ 8 := by decide +kernel
theorem step1 (a b : Nat) (ha : a < 256) : (a / 2 + 128 * (b % 2)) &&& 85 = (a / 2) &&& 85 := s1 ⟨a, ha⟩ ⟨b % 2, Nat.mod_lt _ (by decide)⟩
theorem step2 (a b : Nat) (ha : a < 256) : (a / 4 + 64 * (b % 4)) &&& 51 = (a / 4) &&& 51 := s2 ⟨a, ha⟩ ⟨b % 4, Nat.mod_lt _ (by decide)⟩
theorem byt_add (a b c d e f g h a' b' c' d' e' f' g' h' : Nat) : byt a b c d e f g h + byt a' b' c' d' e' f' g' h' = byt (a + a') (b + b') (c + c') (d + d') (e + e') (f + f') (g + g') (h + h') := by
  unfold byt; omega
theorem byt_lt (a b c d e f g h : Nat) (ha : a < 256) (hb : b < 256) (hc : c < 256) (hd : d < 256) (he : e < 256) (hf : f < 256) (hg : g < 256) (hh : h < 256) : byt a b c d e f g h < 18446744073709551616 := by
  unfold byt; omega

/-- What the library's text reckons. -/
def swar1 (x : Nat) : Nat := ((x / 2) &&& 6148914691236517205) + (x &&& 6148914691236517205)
def swar2 (x : Nat) : Nat := ((x / 4) &&& 3689348814741910323) + (x &&& 3689348814741910323)
def swar3 (x : Nat) : Nat := (x / 16 + x) &&& 1085102592571150095
theorem m85 : 6148914691236517205 = byt 85 85 85 85 85 85 85 85 := rfl
theorem m51 : 3689348814741910323 = byt 51 51 51 51 51 51 51 51 := rfl
theorem m15 : 1085102592571150095 = byt 15 15 15 15 15 15 15 15 := rfl
theorem and85_lt (x : Nat) : x &&& 85 < 256 := Nat.lt_of_le_of_lt Nat.and_le_right (by decide)
theorem swar1_byt (a b c d e f g h : Nat) (ha : a < 256) (hb : b < 256) (hc : c < 256) (hd : d < 256) (he : e < 256) (hf : f < 256) (hg : g < 256) (hh : h < 256) :
    swar1 (byt a b c d e f g h) = byt (p1 a) (p1 b) (p1 c) (p1 d) (p1 e) (p1 f) (p1 g) (p1 h) := by
  unfold swar1
  rw [m85, and_byt a b c d e f g h 85 ha hb hc hd he hf hg (by decide), byt_div a b c d e f g h 2 128 rfl ha hb hc hd he hf hg (by omega),
    and_byt _ _ _ _ _ _ _ _ 85 (by omega) (by omega) (by omega) (by omega) (by omega) (by omega) (by omega) (by decide),
    step1 a b ha, step1 b c hb, step1 c d hc, step1 d e hd, step1 e f he, step1 f g hf, step1 g h hg, byt_add]
  rfl
theorem swar2_byt (a b c d e f g h : Nat) (ha : a < 256) (hb : b < 256) (hc : c < 256) (hd : d < 256) (he : e < 256) (hf : f < 256) (hg : g < 256) (hh : h < 256) :
    swar2 (byt a b c d e f g h) = byt (p2 a) (p2 b) (p2 c) (p2 d) (p2 e) (p2 f) (p2 g) (p2 h) := by
  unfold swar2
  rw [m51, and_byt a b c d e f g h 51 ha hb hc hd he hf hg (by decide), byt_div a b c d e f g h 4 64 rfl ha hb hc hd he hf hg (by omega),
    and_byt _ _ _ _ _ _ _ _ 51 (by omega) (by omega) (by omega) (by omega) (by omega) (by omega) (by omega) (by decide),
    step2 a b ha, step2 b c hb, step2 c d hc, step2 d e hd, step2 e f he, step2 f g hf, step2 g h hg, byt_add]
  rfl
theorem p3' (a b : Nat) (ha : a < 256) (hb : b < 256) : (p2 (p1 a) / 16 + 16 * (p2 (p1 b) % 16) + p2 (p1 a)) &&& 15 = Lib.popAux 8 a :=
  p3 ⟨a, ha⟩ ⟨p2 (p1 b) % 16, Nat.lt_succ_of_le (p2_le ⟨b, hb⟩).2⟩
theorem p3'' (a : Nat) (ha : a < 256) : (p2 (p1 a) / 16 + p2 (p1 a)) &&& 15 = Lib.popAux 8 a := p3 ⟨a, ha⟩ ⟨0, by decide⟩
theorem p2_le' (a : Nat) (ha : a < 256) : p2 (p1 a) ≤ 68 ∧ p2 (p1 a) % 16 ≤ 4 := p2_le ⟨a, ha⟩
theorem p1_lt (a : Nat) (ha : a < 256) : p1 a < 256 := Nat.lt_of_le_of_lt (p1_le ⟨a, ha⟩) (by decide)
theorem swar3_byt (a b c d e f g h : Nat) (ha : a < 256) (hb : b < 256) (hc : c < 256) (hd : d < 256) (he : e < 256) (hf : f < 256) (hg : g < 256) (hh : h < 256) :
    swar3 (swar2 (swar1 (byt a b c d e f g h))) = byt (Lib.popAux 8 a) (Lib.popAux 8 b) (Lib.popAux 8 c) (Lib.popAux 8 d) (Lib.popAux 8 e) (Lib.popAux 8 f) (Lib.popAux 8 g) (Lib.popAux 8 h) := by
  rw [swar1_byt a b c d e f g h ha hb hc hd he hf hg hh, swar2_byt _ _ _ _ _ _ _ _ (p1_lt a ha) (p1_lt b hb) (p1_lt c hc) (p1_lt d hd) (p1_lt e he) (p1_lt f hf) (p1_lt g hg) (p1_lt h hh)]
  have ka := p2_le' a ha; have kb := p2_le' b hb; have kc := p2_le' c hc; have kd := p2_le' d hd
  have ke := p2_le' e he; have kf := p2_le' f hf; have kg := p2_le' g hg; have kh := p2_le' h hh
  unfold swar3
  rw [m15, byt_div _ _ _ _ _ _ _ _ 16 16 rfl (by omega) (by omega) (by omega) (by omega) (by omega) (by omega) (by omega) (by omega), byt_add,
    and_byt _ _ _ _ _ _ _ _ 15 (by omega) (by omega) (by omega) (by omega) (by omega) (by omega) (by omega) (by decide),
    p3' a b ha hb, p3' b c hb hc, p3' c d hc hd, p3' d e hd he, p3' e f he hf, p3' f g hf hg, p3' g h hg hh, p3'' h hh]
def swar4 (x : Nat) : Nat := x + x / 256
def swar5 (x : Nat) : Nat := x + x / 65536
def swar6 (x : Nat) : Nat := x + x / 4294967296
theorem fold_byt (a b c d e f g h : Nat) (ha : a ≤ 8) (hb : b ≤ 8) (hc : c ≤ 8) (hd : d ≤ 8) (he : e ≤ 8) (hf : f ≤ 8) (hg : g ≤ 8) (hh : h ≤ 8) :
    swar6 (swar5 (swar4 (byt a b c d e f g h))) % 128 = a + b + c + d + e + f + g + h := by
  have e4 : swar4 (byt a b c d e f g h) = byt (a + b) (b + c) (c + d) (d + e) (e + f) (f + g) (g + h) h := by unfold swar4 byt; omega
  have e5 : swar5 (byt (a + b) (b + c) (c + d) (d + e) (e + f) (f + g) (g + h) h) = byt (a + b + (c + d)) (b + c + (d + e)) (c + d + (e + f)) (d + e + (f + g)) (e + f + (g + h)) (f + g + h) (g + h) h := by unfold swar5 byt; omega
  have e6 : byt (a + b + (c + d)) (b + c + (d + e)) (c + d + (e + f)) (d + e + (f + g)) (e + f + (g + h)) (f + g + h) (g + h) h / 4294967296 = (e + f + (g + h)) + 256 * ((f + g + h) + 256 * ((g + h) + 256 * h)) := by unfold byt; omega
  rw [e4, e5]; unfold swar6; rw [e6]; unfold byt
  generalize b + c + (d + e) + 256 * (c + d + (e + f) + 256 * (d + e + (f + g) + 256 * (e + f + (g + h) + 256 * (f + g + h + 256 * (g + h + 256 * h))))) = R
  generalize f + g + h + 256 * (g + h + 256 * h) = S
  omega
theorem eight (x : Nat) (h : x < 18446744073709551616) : ∃ a b c d e f g k, a < 256 ∧ b < 256 ∧ c < 256 ∧ d < 256 ∧ e < 256 ∧ f < 256 ∧ g < 256 ∧ k < 256 ∧ x = byt a b c d e f g k := by
  refine ⟨x % 256, x / 256 % 256, x / 65536 % 256, x / 16777216 % 256, x / 4294967296 % 256, x / 1099511627776 % 256, x / 281474976710656 % 256, x / 72057594037927936, ?_⟩
  unfold byt
  omega
theorem pop_byt (a b c d e f g h : Nat) (ha : a < 256) (hb : b < 256) (hc : c < 256) (hd : d < 256) (he : e < 256) (hf : f < 256) (hg : g < 256) :
    Lib.popAux 64 (byt a b c d e f g h) = Lib.popAux 8 a + Lib.popAux 8 b + Lib.popAux 8 c + Lib.popAux 8 d + Lib.popAux 8 e + Lib.popAux 8 f + Lib.popAux 8 g + Lib.popAux 8 h := by
  have st : ∀ m x y, x < 256 → Lib.popAux (8 + m) (x + 256 * y) = Lib.popAux 8 x + Lib.popAux m y := by
    intro m x y hx
    rw [popAux_add m 8, show (x + 256 * y) % 2 ^ 8 = x by omega, show (x + 256 * y) / 2 ^ 8 = y by omega]
  unfold byt
  rw [show 64 = 8 + (8 + (8 + (8 + (8 + (8 + (8 + 8)))))) from rfl, st _ _ _ ha, st _ _ _ hb, st _ _ _ hc, st _ _ _ hd, st _ _ _ he, st _ _ _ hf, st _ _ _ hg]
  omega
theorem popAux8_le (a : Nat) (h : a < 256) : Lib.popAux 8 a ≤ 8 := pop8_le ⟨a, h⟩
/-- What the library's text reckons is the number of ones; no sum wraps. -/
theorem swar_all (x : Nat) (hx : x < 18446744073709551616) :
    swar1 x < 18446744073709551616 ∧ swar2 (swar1 x) < 18446744073709551616 ∧ swar2 (swar1 x) / 16 + swar2 (swar1 x) < 18446744073709551616 ∧ swar3 (swar2 (swar1 x)) < 18446744073709551616 ∧
    swar4 (swar3 (swar2 (swar1 x))) < 18446744073709551616 ∧ swar5 (swar4 (swar3 (swar2 (swar1 x)))) < 18446744073709551616 ∧ swar6 (swar5 (swar4 (swar3 (swar2 (swar1 x))))) < 9223372036854775808 ∧
    swar6 (swar5 (swar4 (swar3 (swar2 (swar1 x))))) % 128 = cnt x.testBit 64 := by
  obtain ⟨a, b, c, d, e, f, g, h, ha, hb, hc, hd, he, hf, hg, hh, rfl⟩ := eight x hx
  rw [← popAux_cnt, pop_byt a b c d e f g h ha hb hc hd he hf hg, swar3_byt a b c d e f g h ha hb hc hd he hf hg hh]
  rw [swar1_byt a b c d e f g h ha hb hc hd he hf hg hh, swar2_byt _ _ _ _ _ _ _ _ (p1_lt a ha) (p1_lt b hb) (p1_lt c hc) (p1_lt d hd) (p1_lt e he) (p1_lt f hf) (p1_lt g hg) (p1_lt h hh)]
  have ka := p2_le' a ha; have kb := p2_le' b hb; have kc := p2_le' c hc; have kd := p2_le' d hd
  have ke := p2_le' e he; have kf := p2_le' f hf; have kg := p2_le' g hg; have kh := p2_le' h hh
  have qa := popAux8_le a ha; have qb := popAux8_le b hb; have qc := popAux8_le c hc; have qd := popAux8_le d hd
  have qe := popAux8_le e he; have qf := popAux8_le f hf; have qg := popAux8_le g hg; have qh := popAux8_le h hh
  have l2 : byt (p2 (p1 a)) (p2 (p1 b)) (p2 (p1 c)) (p2 (p1 d)) (p2 (p1 e)) (p2 (p1 f)) (p2 (p1 g)) (p2 (p1 h)) ≤ byt 68 68 68 68 68 68 68 68 := by unfold byt; omega
  have l3 : byt (Lib.popAux 8 a) (Lib.popAux 8 b) (Lib.popAux 8 c) (Lib.popAux 8 d) (Lib.popAux 8 e) (Lib.popAux 8 f) (Lib.popAux 8 g) (Lib.popAux 8 h) ≤ byt 8 8 8 8 8 8 8 8 := by unfold byt; omega
  have n2 : byt 68 68 68 68 68 68 68 68 = 4919131752989213764 := rfl
  have n3 : byt 8 8 8 8 8 8 8 8 = 578721382704613384 := rfl
  refine ⟨byt_lt _ _ _ _ _ _ _ _ (p1_lt a ha) (p1_lt b hb) (p1_lt c hc) (p1_lt d hd) (p1_lt e he) (p1_lt f hf) (p1_lt g hg) (p1_lt h hh), by omega, by omega, by omega, ?_, ?_, ?_, fold_byt _ _ _ _ _ _ _ _ qa qb qc qd qe qf qg qh⟩
  · unfold swar4; omega
  · unfold swar5 swar4; omega
  · unfold swar6 swar5 swar4; omega
end Go.Proofs.YtbdhibcbpgjbmaaGreatDoor

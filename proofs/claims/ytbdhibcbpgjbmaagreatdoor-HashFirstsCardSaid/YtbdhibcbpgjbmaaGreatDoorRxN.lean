/- Layer 17, plain: many passes are one order; in which bits keys differ. -/
import Derived.Test.YtbdhibcbpgjbmaaGreatDoorRxM
namespace Go.Proofs.YtbdhibcbpgjbmaaGreatDoor
set_option maxRecDepth 100000
set_option linter.unusedVariables false

/-- In order by the bits of the keys below sh, then by themselves. -/
def lsR (down : Bool) (K : Nat → Nat) (sh : Nat) (x y : Nat) : Prop :=
 (if down then K y % 2 ^ sh < K x % 2 ^ sh else K x % 2 ^ sh < K y % 2 ^ sh) ∨ K x % 2 ^ sh = K y % 2 ^ sh ∧ x < y
theorem lsR_zero (down : Bool) (K : Nat → Nat) {x y : Nat} : lsR down K 0 x y ↔ x < y := by
 unfold lsR; cases down <;> simp [Nat.mod_one]
/-- The digit as it counts. -/
def dgK (down : Bool) (K : Nat → Nat) (sh : Nat) (i : Nat) : Nat := dgD down (digN (K i) sh)
theorem dgK_lt (down : Bool) (K : Nat → Nat) (sh i : Nat) : dgK down K sh i < 2048 := dgD_lt (digN_lt _ _)
theorem lsd_step {down : Bool} {K : Nat → Nat} {sh : Nat} {l : List Nat} (h : l.Pairwise (lsR down K sh)) : (passL (dgK down K sh) l).Pairwise (lsR down K (sh + 11)) := by
 refine (passL_pair (dg := dgK down K sh) h).imp (fun {x y} hxy => ?_)
 have a1 := digN_lt (K x) sh
 have a2 := digN_lt (K y) sh
 unfold lsR at hxy ⊢
 unfold dgK dgD at hxy
 cases down
 ·simp only [Bool.false_eq_true, if_false] at hxy ⊢
  rw [mod_lt_iff, mod_eq_iff]
  rcases hxy with h1 | ⟨h1, h2 | ⟨h2, h3⟩⟩
  ·exact Or.inl (Or.inl h1)
  ·exact Or.inl (Or.inr ⟨h1, h2⟩)
  ·exact Or.inr ⟨⟨h1, h2⟩, h3⟩
 ·simp only [if_true] at hxy ⊢
  rw [mod_lt_iff, mod_eq_iff]
  rcases hxy with h1 | ⟨h1, h2 | ⟨h2, h3⟩⟩
  ·exact Or.inl (Or.inl (by omega))
  ·exact Or.inl (Or.inr ⟨by omega, h2⟩)
  ·exact Or.inr ⟨⟨by omega, h2⟩, h3⟩
/-- A pass over a digit that all keys share moves nothing, and the order stands. -/
theorem lsd_skip {down : Bool} {K : Nat → Nat} {sh d : Nat} {l : List Nat} (h : l.Pairwise (lsR down K sh)) (hd : ∀ i ∈ l, digN (K i) sh = d) : l.Pairwise (lsR down K (sh + 11)) := by
 refine List.Pairwise.imp_of_mem (fun {x y} hx hy hxy => ?_) h
 have e : digN (K x) sh = digN (K y) sh := (hd x hx).trans (hd y hy).symm
 unfold lsR at hxy ⊢
 cases down
 ·simp only [Bool.false_eq_true, if_false] at hxy ⊢
  rw [mod_lt_iff, mod_eq_iff]
  rcases hxy with h1 | ⟨h1, h2⟩
  ·exact Or.inl (Or.inr ⟨e, h1⟩)
  ·exact Or.inr ⟨⟨e, h1⟩, h2⟩
 ·simp only [if_true] at hxy ⊢
  rw [mod_lt_iff, mod_eq_iff]
  rcases hxy with h1 | ⟨h1, h2⟩
  ·exact Or.inl (Or.inr ⟨e.symm, h1⟩)
  ·exact Or.inr ⟨⟨e, h1⟩, h2⟩
theorem range_pair (n : Nat) : (List.range n).Pairwise (· < ·) := List.pairwise_lt_range
theorem lsd_start (down : Bool) (K : Nat → Nat) (n : Nat) : (List.range n).Pairwise (lsR down K 0) := (range_pair n).imp (fun h => (lsR_zero down K).2 h)
/-- Above all bits of the keys it is their order. -/
theorem lsR_full {down : Bool} {K : Nat → Nat} {sh x y : Nat} (hx : K x < 2 ^ sh) (hy : K y < 2 ^ sh) : lsR down K sh x y ↔ (if down then K y < K x else K x < K y) ∨ K x = K y ∧ x < y := by
 unfold lsR; rw [Nat.mod_eq_of_lt hx, Nat.mod_eq_of_lt hy]
/-- Keys that share all bits from sh on. -/
theorem lsR_same {down : Bool} {K : Nat → Nat} {sh x y : Nat} (h : K x / 2 ^ sh = K y / 2 ^ sh) : lsR down K sh x y ↔ (if down then K y < K x else K x < K y) ∨ K x = K y ∧ x < y := by
 have h1 := Nat.div_add_mod (K x) (2 ^ sh)
 have h2 := Nat.div_add_mod (K y) (2 ^ sh)
 unfold lsR
 rw [h] at h1
 cases down <;> simp only [Bool.false_eq_true, if_false, if_true] <;> constructor <;> rintro (h3 | ⟨h3, h4⟩) <;> first | (left; omega) | (right; exact ⟨by omega, h4⟩)

/-- Does some key differ from the first one in a bit? -/
def spB (l : List Nat) (k : Nat) : Bool := l.any fun x => x.testBit k != (l.headD 0).testBit k
/-- The bits below k in which some key differs from the first one. -/
def spN (l : List Nat) : Nat → Nat
 | 0 => 0
 | k + 1 => if spB l k then spN l k ||| 2 ^ k else spN l k
theorem spN_bit (l : List Nat) : ∀ k j, (spN l k).testBit j = (decide (j < k) && spB l j)
 | 0, j => by simp [spN]
 | k + 1, j => by
  unfold spN
  by_cases h : spB l k = true
  ·rw [if_pos h, Nat.testBit_or, spN_bit l k j, Nat.testBit_two_pow]
   by_cases e : k = j
   ·subst e; simp [h]
   ·have : decide (j < k + 1) = decide (j < k) := by
     by_cases hj : j < k
     ·rw [decide_eq_true hj, decide_eq_true (by omega)]
     ·rw [decide_eq_false hj, decide_eq_false (by omega)]
    rw [this]; simp [e]
  ·rw [if_neg h, spN_bit l k j]
   by_cases e : k = j
   ·subst e
    have : spB l k = false := by simpa using h
    simp [this]
   ·have : decide (j < k + 1) = decide (j < k) := by
     by_cases hj : j < k
     ·rw [decide_eq_true hj, decide_eq_true (by omega)]
     ·rw [decide_eq_false hj, decide_eq_false (by omega)]
    rw [this]
/-- Put together key by key. -/
def spF (k0 : Nat) (l : List Nat) : Nat := l.foldl (fun a x => a ||| (x ^^^ k0)) 0
theorem spF_bit (k0 : Nat) (l : List Nat) (j : Nat) : (spF k0 l).testBit j = l.any fun x => x.testBit j != k0.testBit j := by
 have key : ∀ (l : List Nat) (a : Nat), (l.foldl (fun a x => a ||| (x ^^^ k0)) a).testBit j = (a.testBit j || l.any fun x => x.testBit j != k0.testBit j) := by
  intro l
  induction l with
  | nil => intro a; simp
  | cons x l ih =>
   intro a
   rw [List.foldl_cons, ih, Nat.testBit_or, Nat.testBit_xor, List.any_cons, Bool.or_assoc]
 unfold spF; rw [key]; simp
theorem spF_spN {l : List Nat} {n : Nat} (h : ∀ x ∈ l, x < 2 ^ n) : spF (l.headD 0) l = spN l n := by
 apply Nat.eq_of_testBit_eq
 intro j
 rw [spF_bit, spN_bit]
 by_cases hj : j < n
 ·rw [decide_eq_true hj]; rfl
 ·rw [decide_eq_false hj, Bool.false_and]
  rw [Bool.eq_false_iff]
  intro ha
  obtain ⟨x, hx, hd⟩ := List.any_eq_true.1 ha
  have big : ∀ y, y < 2 ^ n → y.testBit j = false := fun y hy => Nat.testBit_lt_two_pow (Nat.lt_of_lt_of_le hy (Nat.pow_le_pow_right (by decide) (by omega)))
  have h0 : l.headD 0 < 2 ^ n := by
   cases l with
   | nil => exact Nat.two_pow_pos n
   | cons a l => exact h a (List.mem_cons_self ..)
  rw [big x (h x hx), big _ h0] at hd
  cases hd
/-- A digit in which no bit differs is the same in all keys. -/
theorem dig_same {l : List Nat} {n sh : Nat} (h : digN (spN l n) sh = 0) (hn : ∀ x ∈ l, x < 2 ^ n) {x : Nat} (hx : x ∈ l) : digN x sh = digN (l.headD 0) sh := by
 apply Nat.eq_of_testBit_eq
 intro j
 unfold digN at h ⊢
 rw [show (2048 : Nat) = 2 ^ 11 from rfl, Nat.testBit_mod_two_pow, Nat.testBit_mod_two_pow, Nat.testBit_div_two_pow, Nat.testBit_div_two_pow]
 by_cases hj : j < 11
 ·rw [decide_eq_true hj, Bool.true_and, Bool.true_and]
  have h1 : (spN l n / 2 ^ sh % 2 ^ 11).testBit j = false := by rw [show (2 : Nat) ^ 11 = 2048 from rfl, h]; simp
  rw [Nat.testBit_mod_two_pow, decide_eq_true hj, Bool.true_and, Nat.testBit_div_two_pow, spN_bit] at h1
  by_cases hk : j + sh < n
  ·rw [decide_eq_true hk, Bool.true_and] at h1
   have h2 := List.any_eq_false.1 h1 x hx
   simpa using h2
  ·have big : ∀ y, y < 2 ^ n → y.testBit (j + sh) = false := fun y hy => Nat.testBit_lt_two_pow (Nat.lt_of_lt_of_le hy (Nat.pow_le_pow_right (by decide) (by omega)))
   have h0 : l.headD 0 < 2 ^ n := by
    cases l with
    | nil => exact Nat.two_pow_pos n
    | cons a l => exact hn a (List.mem_cons_self ..)
   rw [big x (hn x hx), big _ h0]
 ·rw [decide_eq_false hj, Bool.false_and, Bool.false_and]
theorem cmpK_one (K : Nat → Int) (i k : Nat) : cmpK K 1 i k = cmpI (K i) (K k) := by
 rcases Int.lt_trichotomy (K i) (K k) with h | h | h
 ·rw [cmpI_lt h]; exact cmpK_lt (j := 0) (by omega) (fun m hm => absurd hm (Nat.not_lt_zero _)) (by simpa using h)
 ·rw [cmpI_eq h]; exact cmpK_eq (fun m hm => by rw [show m = 0 by omega]; simpa using h)
 ·rw [cmpI_gt h]; exact cmpK_gt (j := 0) (by omega) (fun m hm => absurd hm (Nat.not_lt_zero _)) (by simpa using h)
theorem lesK_one {K : Nat → Int} {down : Bool} {i k : Nat} : lesK K 1 down i k = true ↔ (if down then K k < K i else K i < K k) ∨ K i = K k ∧ i < k := by
 unfold lesK
 rw [cmpK_one]
 rcases Int.lt_trichotomy (K i) (K k) with h | h | h
 ·rw [cmpI_lt h]
  cases down
  ·simp [h]
  ·simp; omega
 ·rw [cmpI_eq h]
  cases down <;> simp [h]
 ·rw [cmpI_gt h]
  cases down
  ·simp; omega
  ·simp [h]
/-- Keys that have the order of the elements: what is in order by all their bits is the one list. -/
theorem lsd_so {n sh : Nat} {down : Bool} {K : Nat → Nat} {E : Nat → Int} {a : List Nat} (hp : a.Perm (List.range n)) (h : a.Pairwise (lsR down K sh)) (hK : ∀ i, i < n → K i < 2 ^ sh) (hE : ∀ i k, i < n → k < n → (K i < K k ↔ E i < E k)) : IsSo n (lesK E 1 down) a := by
 refine pair_so hp (List.Pairwise.imp_of_mem (fun {x y} hx hy hxy => ?_) h)
 have hxn := List.mem_range.1 (hp.mem_iff.1 hx)
 have hyn := List.mem_range.1 (hp.mem_iff.1 hy)
 rw [lsR_full (hK x hxn) (hK y hyn)] at hxy
 rw [lesK_one]
 have e1 := hE x y hxn hyn
 have e2 := hE y x hyn hxn
 cases down
 ·simp only [Bool.false_eq_true, if_false] at hxy ⊢
  rcases hxy with h1 | ⟨h1, h2⟩
  ·exact Or.inl (e1.1 h1)
  ·exact Or.inr ⟨by omega, h2⟩
 ·simp only [if_true] at hxy ⊢
  rcases hxy with h1 | ⟨h1, h2⟩
  ·exact Or.inl (e2.1 h1)
  ·exact Or.inr ⟨by omega, h2⟩
end Go.Proofs.YtbdhibcbpgjbmaaGreatDoor

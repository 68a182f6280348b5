/- Merged: RxM, RxN, RxP, RxA, RxK, RxC, RxD, RxE, RxR, RxS, RxO, RxF, RxB, RxG, RxQ. -/
import Derived.Test.YtbdbpamefkgelaaGreatDoorMgOr1
import Derived.Test.YtbdbpamefkgelaaGreatDoorMgVe1
import Derived.Test.YtbdbpamefkgelaaGreatDoorMgPi1
import Derived.Test.YtbdbpamefkgelaaGreatDoorMgSh1
import Derived.Test.YtbdbpamefkgelaaGreatDoorMgBv1
import Derived.Test.YtbdbpamefkgelaaGreatDoorMgBx1
import Derived.Test.YtbdbpamefkgelaaGreatDoorMgVa1
/- Layer 17, plain: places put in order by a digit of their keys; many passes are one order. -/
namespace Go.Proofs.YtbdbpamefkgelaaGreatDoor
set_option maxRecDepth 100000
set_option linter.unusedVariables false

/-- The digit as it counts: downwards the greatest comes first. -/
def dgD (down : Bool) (d : Nat) : Nat := if down then 2047 - d else d
theorem dgD_lt {down : Bool} {d : Nat} (h : d < 2048) : dgD down d < 2048 := by unfold dgD; split <;> omega
/-- Those with the digits from a on, m of them, digit by digit. -/
def segL {α : Type} (dg : α → Nat) (l : List α) (a m : Nat) : List α := (List.range m).flatMap fun c => l.filter fun i => dg i == a + c
/-- All of them. -/
def passL {α : Type} (dg : α → Nat) (l : List α) : List α := segL dg l 0 2048
theorem fm_congr {α β : Type} {l : List α} {f g : α → List β} (h : ∀ x ∈ l, f x = g x) : l.flatMap f = l.flatMap g := by
  rw [List.flatMap_def, List.flatMap_def, List.map_congr_left h]
theorem segL_zero {α : Type} (dg : α → Nat) (l : List α) (a : Nat) : segL dg l a 0 = [] := rfl
theorem segL_succ {α : Type} (dg : α → Nat) (l : List α) (a m : Nat) : segL dg l a (m + 1) = segL dg l a m ++ l.filter fun i => dg i == a + m := by
  unfold segL; rw [List.range_succ, List.flatMap_append]; simp
theorem segL_add {α : Type} (dg : α → Nat) (l : List α) (a m k : Nat) : segL dg l a (m + k) = segL dg l a m ++ segL dg l (a + m) k := by
  induction k with
  | zero => simp [segL_zero]
  | succ k ih => rw [← Nat.add_assoc, segL_succ, ih, segL_succ, List.append_assoc, Nat.add_assoc]
theorem mem_segL {α : Type} {dg : α → Nat} {l : List α} {a m : Nat} {x : α} : x ∈ segL dg l a m ↔ x ∈ l ∧ a ≤ dg x ∧ dg x < a + m := by
  unfold segL
  simp only [List.mem_flatMap, List.mem_range, List.mem_filter, beq_iff_eq]
  constructor
  · rintro ⟨c, h1, h2, h3⟩; exact ⟨h2, by omega, by omega⟩
  · rintro ⟨h1, h2, h3⟩; exact ⟨dg x - a, by omega, h1, by omega⟩
theorem segL_out {α : Type} {dg : α → Nat} {l : List α} {x : α} {a m : Nat} (h : dg x < a ∨ a + m ≤ dg x) : segL dg (l ++ [x]) a m = segL dg l a m := by
  unfold segL
  refine fm_congr fun c hc => ?_
  have := List.mem_range.1 hc
  rw [List.filter_append, List.filter_cons_of_neg (by simp; omega)]
  simp
/-- One more: behind all whose digit is not above its own. -/
theorem passL_snoc {α : Type} {dg : α → Nat} {l : List α} {x : α} (hx : dg x < 2048) : passL dg (l ++ [x]) = segL dg l 0 (dg x + 1) ++ x :: segL dg l (dg x + 1) (2047 - dg x) := by
  unfold passL
  have e : 2048 = (dg x + 1) + (2047 - dg x) := by omega
  conv => lhs; rw [e]
  rw [segL_add, Nat.zero_add, segL_out (a := dg x + 1) (Or.inl (by omega)), segL_succ, segL_out (a := 0) (Or.inr (by omega)), segL_succ, Nat.zero_add, List.filter_append, List.filter_cons_of_pos (by simp)]
  simp
theorem passL_split {α : Type} (dg : α → Nat) (l : List α) {d : Nat} (hd : d < 2048) : passL dg l = segL dg l 0 (d + 1) ++ segL dg l (d + 1) (2047 - d) := by
  unfold passL
  have e : 2048 = (d + 1) + (2047 - d) := by omega
  conv => lhs; rw [e]
  rw [segL_add, Nat.zero_add]
theorem passL_nil {α : Type} (dg : α → Nat) : passL dg ([] : List α) = [] := by
  unfold passL segL; simp
theorem passL_take {α : Type} {dg : α → Nat} {l : List α} (h : ∀ x ∈ l, dg x < 2048) : ∀ k, k ≤ l.length → (passL dg (l.take k)).Perm (l.take k) := by
  intro k
  induction k with
  | zero => intro _; rw [List.take_zero, passL_nil]
  | succ k ih =>
    intro hk
    have hx := h l[k] (List.getElem_mem _)
    rw [List.take_succ_eq_append_getElem hk, passL_snoc hx]
    refine List.perm_middle.trans ?_
    rw [← passL_split dg (l.take k) hx]
    exact ((ih (by omega)).cons _).trans (List.perm_append_singleton _ _).symm
theorem passL_perm {α : Type} {dg : α → Nat} {l : List α} (h : ∀ x ∈ l, dg x < 2048) : (passL dg l).Perm l := by
  have := passL_take h l.length (Nat.le_refl _)
  rwa [List.take_length] at this
/-- Put in order by a digit: by it first, then as they stood. -/
theorem segL_pair {α : Type} {dg : α → Nat} {l : List α} {S : α → α → Prop} (h : l.Pairwise S) (a : Nat) : ∀ m, (segL dg l a m).Pairwise (fun x y => dg x < dg y ∨ dg x = dg y ∧ S x y) := by
  intro m
  induction m with
  | zero => rw [segL_zero]; exact List.Pairwise.nil
  | succ m ih =>
    rw [segL_succ, List.pairwise_append]
    refine ⟨ih, ?_, ?_⟩
    · refine List.Pairwise.imp_of_mem (fun {x y} hx hy hs => ?_) (h.filter _)
      have h1 := (List.mem_filter.1 hx).2
      have h2 := (List.mem_filter.1 hy).2
      rw [beq_iff_eq] at h1 h2
      exact Or.inr ⟨h1.trans h2.symm, hs⟩
    · intro x hx y hy
      have h1 := (mem_segL.1 hx).2.2
      have h2 := (List.mem_filter.1 hy).2
      rw [beq_iff_eq] at h2
      exact Or.inl (by omega)
theorem passL_pair {α : Type} {dg : α → Nat} {l : List α} {S : α → α → Prop} (h : l.Pairwise S) : (passL dg l).Pairwise (fun x y => dg x < dg y ∨ dg x = dg y ∧ S x y) := segL_pair h 0 2048
/-- A list of numbers below n, none missing, in order by keys, then by themselves: it is the one list. -/
theorem pair_so {n : Nat} {lt : Nat → Nat → Bool} {a : List Nat} (hp : a.Perm (List.range n)) (h : a.Pairwise (fun x y => lt x y = true)) : IsSo n lt a := by
  have hl : a.length = n := by rw [hp.length_eq, List.length_range]
  refine ⟨hl, fun x hx => List.mem_range.1 (hp.mem_iff.1 hx), hp.nodup_iff.2 List.nodup_range, fun r hr => ?_⟩
  have := List.pairwise_iff_getElem.1 h r (r + 1) (by omega) (by omega) (by omega)
  simpa [List.getD_eq_getElem?_getD, List.getElem?_eq_getElem (show r < a.length by omega), List.getElem?_eq_getElem (show r + 1 < a.length by omega)] using this
/-- The digits of a key, eleven bits each. -/
def digN (key sh : Nat) : Nat := key / 2 ^ sh % 2048
theorem digN_lt (key sh : Nat) : digN key sh < 2048 := Nat.mod_lt _ (by decide)
/-- What is left of a key below a bit, and the digit on top of it. -/
theorem mod_dig (key sh : Nat) : key % 2 ^ (sh + 11) = digN key sh * 2 ^ sh + key % 2 ^ sh := by
  unfold digN
  rw [Nat.pow_add, show (2 : Nat) ^ 11 = 2048 from rfl, Nat.mod_mul, Nat.mul_comm, Nat.add_comm]
theorem mod_lt_iff {a b sh : Nat} : a % 2 ^ (sh + 11) < b % 2 ^ (sh + 11) ↔ digN a sh < digN b sh ∨ digN a sh = digN b sh ∧ a % 2 ^ sh < b % 2 ^ sh := by
  rw [mod_dig, mod_dig]
  have h1 := Nat.mod_lt a (Nat.two_pow_pos sh)
  have h2 := Nat.mod_lt b (Nat.two_pow_pos sh)
  generalize digN a sh = p at *
  generalize digN b sh = q at *
  generalize 2 ^ sh = m at *
  generalize a % m = r at *
  generalize b % m = s at *
  rcases Nat.lt_trichotomy p q with h | h | h
  · have : (p + 1) * m ≤ q * m := Nat.mul_le_mul_right _ h
    rw [Nat.add_mul, Nat.one_mul] at this
    constructor
    · intro _; exact Or.inl h
    · intro _; omega
  · subst h; omega
  · have : (q + 1) * m ≤ p * m := Nat.mul_le_mul_right _ h
    rw [Nat.add_mul, Nat.one_mul] at this
    constructor
    · intro _; omega
    · rintro (h3 | ⟨h3, _⟩) <;> omega
theorem mod_eq_iff {a b sh : Nat} : a % 2 ^ (sh + 11) = b % 2 ^ (sh + 11) ↔ digN a sh = digN b sh ∧ a % 2 ^ sh = b % 2 ^ sh := by
  have h1 := @mod_lt_iff a b sh
  have h2 := @mod_lt_iff b a sh
  constructor
  · intro e
    constructor <;> omega
  · rintro ⟨e1, e2⟩
    rw [mod_dig, mod_dig, e1, e2]
end Go.Proofs.YtbdbpamefkgelaaGreatDoor

/- Layer 17, plain: many passes are one order; in which bits keys differ. -/
namespace Go.Proofs.YtbdbpamefkgelaaGreatDoor
set_option maxRecDepth 100000
set_option linter.unusedVariables false

/-- In order by the bits of the keys below sh, then by themselves. -/
def lsR (down : Bool) (K : Nat → Nat) (sh : Nat) (x y : Nat) : Prop :=
  (if down then K y % 2 ^ sh < K x % 2 ^ sh else K x % 2 ^ sh < K y % 2 ^ sh) ∨ K x % 2 ^ sh = K y % 2 ^ sh ∧ x < y
theorem lsR_zero (down : Bool) (K : Nat → Nat) {x y : Nat} : lsR down K 0 x y ↔ x < y := by
  unfold lsR; cases down <;> simp [Nat.mod_one]
/-- The digit as it counts. -/
def dgK (down : Bool) (K : Nat → Nat) (sh : Nat) (i : Nat) : Nat := dgD down (digN (K i) sh)
theorem dgK_lt (down : Bool) (K : Nat → Nat) (sh i : Nat) : dgK down K sh i < 2048 := dgD_lt (digN_lt _ _)
theorem lsd_step {down : Bool} {K : Nat → Nat} {sh : Nat} {l : List Nat} (h : l.Pairwise (lsR down K sh)) : (passL (dgK down K sh) l).Pairwise (lsR down K (sh + 11)) := by
  refine (passL_pair (dg := dgK down K sh) h).imp (fun {x y} hxy => ?_)
  have a1 := digN_lt (K x) sh
  have a2 := digN_lt (K y) sh
  unfold lsR at hxy ⊢
  unfold dgK dgD at hxy
  cases down
  · simp only [Bool.false_eq_true, if_false] at hxy ⊢
    rw [mod_lt_iff, mod_eq_iff]
    rcases hxy with h1 | ⟨h1, h2 | ⟨h2, h3⟩⟩
    · exact Or.inl (Or.inl h1)
    · exact Or.inl (Or.inr ⟨h1, h2⟩)
    · exact Or.inr ⟨⟨h1, h2⟩, h3⟩
  · simp only [if_true] at hxy ⊢
    rw [mod_lt_iff, mod_eq_iff]
    rcases hxy with h1 | ⟨h1, h2 | ⟨h2, h3⟩⟩
    · exact Or.inl (Or.inl (by omega))
    · exact Or.inl (Or.inr ⟨by omega, h2⟩)
    · exact Or.inr ⟨⟨by omega, h2⟩, h3⟩
theorem range_pair (n : Nat) : (List.range n).Pairwise (· < ·) := List.pairwise_lt_range
theorem lsd_start (down : Bool) (K : Nat → Nat) (n : Nat) : (List.range n).Pairwise (lsR down K 0) := (range_pair n).imp (fun h => (lsR_zero down K).2 h)
/-- Above all bits of the keys it is their order. -/
theorem lsR_full {down : Bool} {K : Nat → Nat} {sh x y : Nat} (hx : K x < 2 ^ sh) (hy : K y < 2 ^ sh) : lsR down K sh x y ↔ (if down then K y < K x else K x < K y) ∨ K x = K y ∧ x < y := by
  unfold lsR; rw [Nat.mod_eq_of_lt hx, Nat.mod_eq_of_lt hy]
/-- Does some key differ from the first one in a bit? -/
def spB (l : List Nat) (k : Nat) : Bool := l.any fun x => x.testBit k != (l.headD 0).testBit k
/-- The bits below k in which some key differs from the first one. -/
def spN (l : List Nat) : Nat → Nat
  | 0 => 0
  | k + 1 => if spB l k then spN l k ||| 2 ^ k else spN l k
theorem spN_bit (l : List Nat) : ∀ k j, (spN l k).testBit j = (decide (j < k) && spB l j)
  | 0, j => by simp [spN]
  | k + 1, j => by
    unfold spN
    by_cases h : spB l k = true
    · rw [if_pos h, Nat.testBit_or, spN_bit l k j, Nat.testBit_two_pow]
      by_cases e : k = j
      · subst e; simp [h]
      · have : decide (j < k + 1) = decide (j < k) := by
          by_cases hj : j < k
          · rw [decide_eq_true hj, decide_eq_true (by omega)]
          · rw [decide_eq_false hj, decide_eq_false (by omega)]
        rw [this]; simp [e]
    · rw [if_neg h, spN_bit l k j]
      by_cases e : k = j
      · subst e
        have : spB l k = false := by simpa using h
        simp [this]
      · have : decide (j < k + 1) = decide (j < k) := by
          by_cases hj : j < k
          · rw [decide_eq_true hj, decide_eq_true (by omega)]
          · rw [decide_eq_false hj, decide_eq_false (by omega)]
        rw [this]
/-- Put together key by key. -/
def spF (k0 : Nat) (l : List Nat) : Nat := l.foldl (fun a x => a ||| (x ^^^ k0)) 0
theorem spF_bit (k0 : Nat) (l : List Nat) (j : Nat) : (spF k0 l).testBit j = l.any fun x => x.testBit j != k0.testBit j := by
  have key : ∀ (l : List Nat) (a : Nat), (l.foldl (fun a x => a ||| (x ^^^ k0)) a).testBit j = (a.testBit j || l.any fun x => x.testBit j != k0.testBit j) := by
    intro l
    induction l with
    | nil => intro a; simp
    | cons x l ih =>
      intro a
      rw [List.foldl_cons, ih, Nat.testBit_or, Nat.testBit_xor, List.any_cons, Bool.or_assoc]
  unfold spF; rw [key]; simp
theorem spF_spN {l : List Nat} {n : Nat} (h : ∀ x ∈ l, x < 2 ^ n) : spF (l.headD 0) l = spN l n := by
  apply Nat.eq_of_testBit_eq
  intro j
  rw [spF_bit, spN_bit]
  by_cases hj : j < n
  · rw [decide_eq_true hj]; rfl
  · rw [decide_eq_false hj, Bool.false_and]
    rw [Bool.eq_false_iff]
    intro ha
    obtain ⟨x, hx, hd⟩ := List.any_eq_true.1 ha
    have big : ∀ y, y < 2 ^ n → y.testBit j = false := fun y hy => Nat.testBit_lt_two_pow (Nat.lt_of_lt_of_le hy (Nat.pow_le_pow_right (by decide) (by omega)))
    have h0 : l.headD 0 < 2 ^ n := by
      cases l with
      | nil => exact Nat.two_pow_pos n
      | cons a l => exact h a (List.mem_cons_self ..)
    rw [big x (h x hx), big _ h0] at hd
    cases hd
theorem cmpK_one (K : Nat → Int) (i k : Nat) : cmpK K 1 i k = cmpI (K i) (K k) := by
  rcases Int.lt_trichotomy (K i) (K k) with h | h | h
  · rw [cmpI_lt h]; exact cmpK_lt (j := 0) (by omega) (fun m hm => absurd hm (Nat.not_lt_zero _)) (by simpa using h)
  · rw [cmpI_eq h]; exact cmpK_eq (fun m hm => by rw [show m = 0 by omega]; simpa using h)
  · rw [cmpI_gt h]; exact cmpK_gt (j := 0) (by omega) (fun m hm => absurd hm (Nat.not_lt_zero _)) (by simpa using h)
theorem lesK_one {K : Nat → Int} {down : Bool} {i k : Nat} : lesK K 1 down i k = true ↔ (if down then K k < K i else K i < K k) ∨ K i = K k ∧ i < k := by
  unfold lesK
  rw [cmpK_one]
  rcases Int.lt_trichotomy (K i) (K k) with h | h | h
  · rw [cmpI_lt h]
    cases down
    · simp [h]
    · simp; omega
  · rw [cmpI_eq h]
    cases down <;> simp [h]
  · rw [cmpI_gt h]
    cases down
    · simp; omega
    · simp [h]
/-- Keys that have the order of the elements: what is in order by all their bits is the one list. -/
theorem lsd_so {n sh : Nat} {down : Bool} {K : Nat → Nat} {E : Nat → Int} {a : List Nat} (hp : a.Perm (List.range n)) (h : a.Pairwise (lsR down K sh)) (hK : ∀ i, i < n → K i < 2 ^ sh) (hE : ∀ i k, i < n → k < n → (K i < K k ↔ E i < E k)) : IsSo n (lesK E 1 down) a := by
  refine pair_so hp (List.Pairwise.imp_of_mem (fun {x y} hx hy hxy => ?_) h)
  have hxn := List.mem_range.1 (hp.mem_iff.1 hx)
  have hyn := List.mem_range.1 (hp.mem_iff.1 hy)
  rw [lsR_full (hK x hxn) (hK y hyn)] at hxy
  rw [lesK_one]
  have e1 := hE x y hxn hyn
  have e2 := hE y x hyn hxn
  cases down
  · simp only [Bool.false_eq_true, if_false] at hxy ⊢
    rcases hxy with h1 | ⟨h1, h2⟩
    · exact Or.inl (e1.1 h1)
    · exact Or.inr ⟨by omega, h2⟩
  · simp only [if_true] at hxy ⊢
    rcases hxy with h1 | ⟨h1, h2⟩
    · exact Or.inl (e2.1 h1)
    · exact Or.inr ⟨by omega, h2⟩
end Go.Proofs.YtbdbpamefkgelaaGreatDoor

/- Layer 17, plain: places put by counting; passes that begin where keys differ; what the keys are. -/
namespace Go.Proofs.YtbdbpamefkgelaaGreatDoor
set_option maxRecDepth 100000
open Go.RowKit Fl
set_option linter.unusedVariables false

/-- A row of 2048 numbers. -/
def rowF (f : Nat → Int) : List Int := (List.range 2048).map f
theorem rowF_len (f : Nat → Int) : (rowF f).length = 2048 := by simp [rowF]
theorem rowF_at {f : Nat → Int} {d : Nat} (h : d < 2048) : (rowF f)[d]? = some (f d) := by simp [rowF, h]
theorem rowF_congr {f g : Nat → Int} (h : ∀ d, d < 2048 → f d = g d) : rowF f = rowF g := by
  unfold rowF; exact List.map_congr_left fun d hd => h d (List.mem_range.1 hd)
theorem rowF_set (f : Nat → Int) (d : Nat) (x : Int) : (rowF f).set d x = rowF fun e => if e = d then x else f e := by
  apply List.ext_getElem?
  intro i
  rw [List.getElem?_set, rowF_len]
  by_cases h : d = i
  · subst h
    rw [if_pos rfl]
    by_cases hd : d < 2048
    · rw [if_pos hd, rowF_at hd, if_pos rfl]
    · rw [if_neg hd, List.getElem?_eq_none (by rw [rowF_len]; omega)]
  · rw [if_neg h]
    by_cases hi : i < 2048
    · rw [rowF_at hi, rowF_at hi, if_neg (fun e => h e.symm)]
    · rw [List.getElem?_eq_none (by rw [rowF_len]; omega), List.getElem?_eq_none (by rw [rowF_len]; omega)]
theorem rowF_zero : rowF (fun _ => 0) = List.replicate 2048 0 := by
  unfold rowF; rw [List.map_const', List.length_range]
/-- How many of the first k have a digit. -/
def cntL (dg : Nat → Nat) (l : List Nat) (k d : Nat) : Nat := ((l.take k).filter (fun x => dg x == d)).length
theorem cntL_zero (dg : Nat → Nat) (l : List Nat) (d : Nat) : cntL dg l 0 d = 0 := by simp [cntL]
theorem take_getX {α : Type} {l : List α} {k : Nat} {x : α} (h : l[k]? = some x) : l.take (k + 1) = l.take k ++ [x] := by
  obtain ⟨h1, h2⟩ := List.getElem?_eq_some_iff.1 h
  rw [List.take_succ_eq_append_getElem h1, h2]
theorem cntL_succ {dg : Nat → Nat} {l : List Nat} {k x : Nat} (h : l[k]? = some x) (d : Nat) : cntL dg l (k + 1) d = if d = dg x then cntL dg l k d + 1 else cntL dg l k d := by
  unfold cntL
  rw [take_getX h, List.filter_append]
  by_cases e : d = dg x
  · rw [if_pos e, List.filter_cons_of_pos (by simp [e])]; simp
  · rw [if_neg e, List.filter_cons_of_neg (by simpa using fun h => e h.symm)]; simp
theorem cntL_le (dg : Nat → Nat) (l : List Nat) (k d : Nat) : cntL dg l k d ≤ k := by
  unfold cntL
  exact Nat.le_trans (List.length_filter_le _ _) (by rw [List.length_take]; omega)
theorem cntL_mono {dg : Nat → Nat} {l : List Nat} {j k d : Nat} (h : j ≤ k) : cntL dg l j d ≤ cntL dg l k d := by
  unfold cntL
  have : l.take j = (l.take k).take j := by rw [List.take_take, Nat.min_eq_left h]
  rw [this]
  exact ((List.take_sublist j (l.take k)).filter _).length_le
theorem cntL_all (dg : Nat → Nat) (l : List Nat) (d : Nat) : cntL dg l l.length d = (l.filter (fun x => dg x == d)).length := by
  unfold cntL; rw [List.take_length]
/-- How many have a lesser digit. -/
def stL (dg : Nat → Nat) (l : List Nat) (d : Nat) : Nat := (segL dg l 0 d).length
theorem stL_succ (dg : Nat → Nat) (l : List Nat) (d : Nat) : stL dg l (d + 1) = stL dg l d + cntL dg l l.length d := by
  unfold stL; rw [segL_succ, List.length_append, cntL_all, Nat.zero_add]
theorem stL_mono {dg : Nat → Nat} {l : List Nat} {d e : Nat} (h : d ≤ e) : stL dg l d ≤ stL dg l e := by
  induction e with
  | zero => rw [show d = 0 by omega]; exact Nat.le_refl _
  | succ e ih =>
    by_cases hd : d = e + 1
    · rw [hd]; exact Nat.le_refl _
    · have := ih (by omega); rw [stL_succ]; omega
theorem stL_le {dg : Nat → Nat} {l : List Nat} (d : Nat) (h : d ≤ 2048) (hd : ∀ x ∈ l, dg x < 2048) : stL dg l d ≤ l.length := by
  have h1 := stL_mono (dg := dg) (l := l) h
  have h2 : stL dg l 2048 = l.length := (passL_perm hd).length_eq
  omega
/-- Where one comes to stand. -/
def posL (dg : Nat → Nat) (l : List Nat) (k : Nat) : Nat := stL dg l (dg (l.getD k 0)) + cntL dg l k (dg (l.getD k 0))
theorem filter_at {α : Type} {p : α → Bool} {l : List α} {k : Nat} {x : α} (h : l[k]? = some x) (hp : p x = true) : (l.filter p)[((l.take k).filter p).length]? = some x := by
  obtain ⟨h1, h2⟩ := List.getElem?_eq_some_iff.1 h
  have e : l = l.take k ++ x :: l.drop (k + 1) := by
    rw [← h2, List.getElem_cons_drop, List.take_append_drop]
  conv => lhs; arg 1; rw [e]
  rw [List.filter_append, List.getElem?_append_right (Nat.le_refl _), Nat.sub_self, List.filter_cons_of_pos hp]
  rfl
theorem posL_at {dg : Nat → Nat} {l : List Nat} (hd : ∀ x ∈ l, dg x < 2048) {k x : Nat} (h : l[k]? = some x) : (passL dg l)[posL dg l k]? = some x := by
  have hx : l.getD k 0 = x := by rw [List.getD_eq_getElem?_getD, h]; rfl
  have hdx := hd x (List.mem_of_getElem? h)
  unfold posL
  rw [hx]
  unfold passL stL cntL
  have e : 2048 = (dg x + 1) + (2047 - dg x) := by omega
  conv => lhs; arg 1; rw [e]
  rw [segL_add, segL_succ, Nat.zero_add, List.append_assoc, List.getElem?_append_right (Nat.le_add_right _ _), Nat.add_sub_cancel_left]
  have h1 := filter_at (p := fun y => dg y == dg x) h (by simp)
  have h2 := (List.getElem?_eq_some_iff.1 h1).1
  rw [List.getElem?_append_left h2]
  exact h1
theorem posL_lt {dg : Nat → Nat} {l : List Nat} (hd : ∀ x ∈ l, dg x < 2048) {k : Nat} (h : k < l.length) : posL dg l k < l.length := by
  have h1 := posL_at hd (List.getElem?_eq_getElem h)
  have h2 := (List.getElem?_eq_some_iff.1 h1).1
  rwa [(passL_perm hd).length_eq] at h2
theorem posL_ne {dg : Nat → Nat} {l : List Nat} {j k : Nat} (hjk : j < k) (hk : k < l.length) : posL dg l j ≠ posL dg l k := by
  have hj : j < l.length := by omega
  unfold posL
  have e1 : l.getD j 0 = l[j] := by rw [List.getD_eq_getElem?_getD, List.getElem?_eq_getElem hj]; rfl
  have e2 : l.getD k 0 = l[k] := by rw [List.getD_eq_getElem?_getD, List.getElem?_eq_getElem hk]; rfl
  rw [e1, e2]
  have a1 := cntL_succ (dg := dg) (List.getElem?_eq_getElem hj) (dg l[j])
  have a2 := cntL_succ (dg := dg) (List.getElem?_eq_getElem hk) (dg l[k])
  rw [if_pos rfl] at a1 a2
  have b1 := cntL_mono (dg := dg) (l := l) (d := dg l[j]) (show j + 1 ≤ l.length by omega)
  have b2 := cntL_mono (dg := dg) (l := l) (d := dg l[k]) (show k + 1 ≤ l.length by omega)
  have b3 := cntL_mono (dg := dg) (l := l) (d := dg l[j]) (show j + 1 ≤ k by omega)
  generalize dg l[j] = p at *
  generalize dg l[k] = q at *
  rcases Nat.lt_trichotomy p q with h | h | h
  · have := stL_mono (dg := dg) (l := l) (show p + 1 ≤ q by omega)
    rw [stL_succ] at this; omega
  · subst h; omega
  · have := stL_mono (dg := dg) (l := l) (show q + 1 ≤ p by omega)
    rw [stL_succ] at this; omega
/-- The list in the making. -/
def plcT (dg : Nat → Nat) (l : List Nat) : Nat → List Nat
  | 0 => List.replicate l.length 0
  | k + 1 => (plcT dg l k).set (posL dg l k) (l.getD k 0)
theorem plcT_len (dg : Nat → Nat) (l : List Nat) : ∀ k, (plcT dg l k).length = l.length
  | 0 => by simp [plcT]
  | k + 1 => by simp only [plcT, List.length_set]; exact plcT_len dg l k
theorem plcT_at {dg : Nat → Nat} {l : List Nat} (hd : ∀ x ∈ l, dg x < 2048) : ∀ k, k ≤ l.length → ∀ m, m < k → (plcT dg l k)[posL dg l m]? = l[m]? := by
  intro k
  induction k with
  | zero => intro _ m hm; exact absurd hm (Nat.not_lt_zero _)
  | succ k ih =>
    intro hk m hm
    simp only [plcT]
    rw [List.getElem?_set]
    by_cases e : m = k
    · subst e
      rw [if_pos rfl, plcT_len, if_pos (posL_lt hd (by omega)), List.getD_eq_getElem?_getD, List.getElem?_eq_getElem (show m < l.length by omega)]; rfl
    · rw [if_neg (fun h => posL_ne (dg := dg) (show m < k by omega) (by omega) h.symm)]
      exact ih (by omega) m (by omega)
theorem plcT_all {dg : Nat → Nat} {l : List Nat} (hd : ∀ x ∈ l, dg x < 2048) : plcT dg l l.length = passL dg l := by
  have hf := full_of (n := l.length) (l := (List.range l.length).map (posL dg l)) (by
    rw [List.nodup_iff_pairwise_ne, List.pairwise_map]
    refine List.Pairwise.imp_of_mem (fun {a b} ha hb hab => ?_) (range_pair l.length)
    exact posL_ne hab (List.mem_range.1 hb)) (by simp) (fun x hx => by
      obtain ⟨m, hm, rfl⟩ := List.mem_map.1 hx
      exact posL_lt hd (List.mem_range.1 hm))
  apply List.ext_getElem?
  intro i
  by_cases hi : i < l.length
  · obtain ⟨m, hm, rfl⟩ := List.mem_map.1 (hf i hi)
    have hm2 := List.mem_range.1 hm
    rw [plcT_at hd _ (Nat.le_refl _) m hm2, posL_at hd (List.getElem?_eq_getElem hm2), List.getElem?_eq_getElem hm2]
  · rw [List.getElem?_eq_none (by rw [plcT_len]; omega), List.getElem?_eq_none (by rw [(passL_perm hd).length_eq]; omega)]
/-- Bits that all keys share may be passed over. -/
theorem lsR_stride {down : Bool} {K : Nat → Nat} {sh s : Nat} {l : List Nat} (hs : sh ≤ s) (h : l.Pairwise (lsR down K sh)) (hd : ∀ x ∈ l, ∀ y ∈ l, ∀ j, sh ≤ j → j < s → (K x).testBit j = (K y).testBit j) : l.Pairwise (lsR down K s) := by
  refine List.Pairwise.imp_of_mem (fun {x y} hx hy hxy => ?_) h
  have e : K x % 2 ^ s / 2 ^ sh = K y % 2 ^ s / 2 ^ sh := by
    apply Nat.eq_of_testBit_eq
    intro j
    rw [Nat.testBit_div_two_pow, Nat.testBit_div_two_pow, Nat.testBit_mod_two_pow, Nat.testBit_mod_two_pow]
    by_cases hj : j + sh < s
    · rw [hd x hx y hy (j + sh) (by omega) hj]
    · rw [decide_eq_false hj, Bool.false_and, Bool.false_and]
  have m1 : K x % 2 ^ s % 2 ^ sh = K x % 2 ^ sh := Nat.mod_mod_of_dvd _ (Nat.pow_dvd_pow 2 hs)
  have m2 : K y % 2 ^ s % 2 ^ sh = K y % 2 ^ sh := Nat.mod_mod_of_dvd _ (Nat.pow_dvd_pow 2 hs)
  have h1 := Nat.div_add_mod (K x % 2 ^ s) (2 ^ sh)
  have h2 := Nat.div_add_mod (K y % 2 ^ s) (2 ^ sh)
  rw [m1, e] at h1
  rw [m2] at h2
  unfold lsR at hxy ⊢
  cases down <;> simp only [Bool.false_eq_true, if_false, if_true] at hxy ⊢ <;> rcases hxy with h3 | ⟨h3, h4⟩ <;> first | (left; omega) | (right; exact ⟨by omega, h4⟩)
/-- The bits left: those from sh on in which keys differ. -/
def RestIs (keys : List Nat) (sh r : Nat) : Prop := ∀ j, r.testBit j = (decide (sh ≤ j) && (decide (j < 64) && spB keys j))
theorem rest_start (keys : List Nat) : RestIs keys 0 (spN keys 64) := fun j => by rw [spN_bit]; simp
theorem rest_step {keys : List Nat} {sh r r2 s : Nat} (hs : sh ≤ s) (h : RestIs keys sh r) (hlow : ∀ j, j < s → r.testBit j = false) (hr : ∀ j, r2.testBit j = (r.testBit j && !decide (s ≤ j ∧ j < s + 11))) : RestIs keys (s + 11) r2 := by
  intro j
  rw [hr j]
  by_cases h1 : s + 11 ≤ j
  · rw [h j, decide_eq_true (show sh ≤ j by omega), decide_eq_true h1, decide_eq_false (show ¬ (s ≤ j ∧ j < s + 11) by omega)]; simp
  · rw [decide_eq_false h1, Bool.false_and]
    by_cases h4 : s ≤ j
    · rw [decide_eq_true (show s ≤ j ∧ j < s + 11 by omega)]; simp
    · rw [hlow j (by omega)]; simp
end Go.Proofs.YtbdbpamefkgelaaGreatDoor

/- Layer 17, walked: digit, the reference's Digit, Spread, the reference's Spread; an array of 2048 numbers. -/
namespace Go.Proofs.YtbdbpamefkgelaaGreatDoor
set_option maxRecDepth 100000
open Go.RowKit Fl
set_option linter.unusedVariables false

def isZ : Value → Bool
  | .int .i64 n => n == 0
  | _ => false
theorem isZ_eq {v : Value} (h : isZ v = true) : v = .int .i64 0 := by
  unfold isZ at h
  split at h
  · rw [eq_of_beq h]
  · cases h
theorem zero_arrD : (Tryz.zeroCells146.size, Tryz.zeroCells146.toList.all isZ) = (2048, true) := by kernel_rfl
theorem own_arrD (w : World) (base : Nat) (hb : base ≤ w.heap.size) : (w.alloc (.cells Tryz.zeroCells146 146)).ownsRow base 146 1 (.slice (some ⟨w.heap.size, 0, none⟩) 2048 2048) 2048 (List.replicate 2048 (.int .i64 0)) := by
  have h := zero_arrD
  simp only [Prod.mk.injEq] at h
  have ho := World.ownsRow_lit (e := 146) (size := 1) w Tryz.zeroCells146 2048 hb (by unfold maxLen; omega) (by rw [h.1])
  rwa [show Tryz.zeroCells146.toList = List.replicate 2048 (.int .i64 0) from List.eq_replicate_iff.2 ⟨by rw [Array.length_toList]; exact h.1, fun b hb => isZ_eq (List.all_eq_true.1 h.2 b hb)⟩] at ho
set_option maxHeartbeats 4000000 in
theorem rxdigit_calls {ok : Nat → Prop} (v : Value) (keys : List Nat) (i s : Nat) (down : Bool) (w : World) (hv : Slc w ok v keys.length (u64s keys)) (hi : i < keys.length) (hs : s < 64) (hm : keys.length ≤ 1048576) (hk : ∀ x ∈ keys, x < 18446744073709551616) :
    Calls Tryz.prog 102 #[v, .int .i64 (i : Int), .int .u64 (s : Int), .bool down] w fun e w' => e = .returned (.int .i64 ((dgK down (fun i => keys.getD i 0) s i : Nat) : Int)) ∧ w = w' := by
  obtain ⟨b, off, cap, x, rfl, hx, hcx⟩ := Slc.at_map (fun z : Nat => Value.int .u64 (z : Int)) hv i hi
  have hD : dgK down (fun i => keys.getD i 0) s i = dgD down (x / 2 ^ s % 2048) := by
    unfold dgK digN
    simp only []
    rw [show keys.getD i 0 = x by rw [List.getD_eq_getElem?_getD, hx]; rfl]
  have hxl := hk x (List.mem_of_getElem? hx)
  rw [hD]
  obtain ⟨D, hDD⟩ : ∃ D, x / 2 ^ s % 2048 = D := ⟨_, rfl⟩
  have hDl : D < 2048 := by rw [← hDD]; exact Nat.mod_lt _ (by decide)
  obtain ⟨n, hn⟩ : ∃ n, keys.length = n := ⟨_, rfl⟩
  rw [hn] at hi hm ⊢
  have d1 : (x : Int) / 2 ^ s % 2048 = (D : Int) := by rw [← hDD]; simp
  have d2 : ((x : Int) / 2 ^ s).tmod 2048 = (D : Int) := by rw [← hDD, show (x : Int) / 2 ^ s = ((x / 2 ^ s : Nat) : Int) by simp, show (2048 : Int) = ((2048 : Nat) : Int) from rfl, ← Int.ofNat_tmod]
  rw [hDD]
  have HD := Lib.hid hDl
  clear hv hk hx hD hDD hn
  cases down
  · go_enter Tryz.func102, Tryz.ntmps102
    go_wp2
    go_ret
    exact ⟨ret_i (by unfold dgD; simp), rfl⟩
  · go_enter Tryz.func102, Tryz.ntmps102
    go_wp2
    go_ret
    exact ⟨ret_i (by have := HD.out; unfold dgD; simp only [if_true]; omega), rfl⟩
/-- Bits in which the first k keys differ from the first one. -/
def spP (keys : List Nat) (k : Nat) : Nat := spF (keys.headD 0) (keys.take k)
theorem spP_zero (keys : List Nat) : spP keys 0 = 0 := rfl
theorem spP_succ {keys : List Nat} {k x : Nat} (h : keys[k]? = some x) : spP keys (k + 1) = spP keys k ||| (x ^^^ keys.headD 0) := by
  unfold spP spF
  rw [take_getX h, List.foldl_append]; rfl
theorem xor_lt64 {a b : Nat} (ha : a < 18446744073709551616) (hb : b < 18446744073709551616) : a ^^^ b < 18446744073709551616 := Nat.xor_lt_two_pow (n := 64) ha hb
theorem or_lt64 {a b : Nat} (ha : a < 18446744073709551616) (hb : b < 18446744073709551616) : a ||| b < 18446744073709551616 := Nat.or_lt_two_pow (n := 64) ha hb
theorem head_lt {keys : List Nat} (hk : ∀ x ∈ keys, x < 18446744073709551616) : keys.headD 0 < 18446744073709551616 := by
  cases keys with
  | nil => decide
  | cons a l => exact hk a (List.mem_cons_self ..)
theorem spP_lt {keys : List Nat} (hk : ∀ x ∈ keys, x < 18446744073709551616) : ∀ k, k ≤ keys.length → spP keys k < 18446744073709551616 := by
  intro k
  induction k with
  | zero => intro _; rw [spP_zero]; decide
  | succ k ih =>
    intro h
    rw [spP_succ (List.getElem?_eq_getElem (show k < keys.length by omega))]
    exact or_lt64 (ih (by omega)) (xor_lt64 (hk _ (List.getElem_mem _)) (head_lt hk))
theorem spP_all {keys : List Nat} (hk : ∀ x ∈ keys, x < 18446744073709551616) : spP keys keys.length = spN keys 64 := by
  unfold spP; rw [List.take_length]
  exact spF_spN (n := 64) hk
theorem head_at {keys : List Nat} {x : Nat} (h : keys[0]? = some x) : keys.headD 0 = x := by
  cases keys with
  | nil => cases h
  | cons a l => exact Option.some.inj h
set_option maxHeartbeats 4000000 in
theorem rxspread_calls {ok : Nat → Prop} (v : Value) (keys : List Nat) (w : World) (hv : Slc w ok v keys.length (u64s keys)) (hm : keys.length ≤ 1048576) (hk : ∀ x ∈ keys, x < 18446744073709551616) :
    Calls Tryz.prog 72 #[v] w fun e w' => e = .returned (.int .u64 ((spN keys 64 : Nat) : Int)) ∧ w = w' := by
  have HV := Lib.hid hv
  have HK := Lib.hid hk
  have HA := Lib.hid (spP_all hk)
  obtain ⟨ao, cap, rfl, _⟩ := hv.opened
  obtain ⟨n, hn⟩ : ∃ n, keys.length = n := ⟨_, rfl⟩
  have HN := Lib.hid hn
  rw [hn] at hm HV HA ⊢
  clear hv hk hn
  go_enter Tryz.func72, Tryz.ntmps72
  go_wp2
  go_loopw [3, 8] (fun zv iv wr => ∃ k : Nat, k ≤ n ∧ iv = .int .i64 k ∧ zv = .int .u64 ((spP keys k : Nat) : Int) ∧ wr = w) (fun _ iv _ => n - (intOf iv).toNat)
  case atStart => exact ⟨0, by omega, rfl, rfl, rfl⟩
  case round =>
    obtain ⟨k, hkn, rfl, rfl, rfl⟩ := hrel
    obtain ⟨c, hc⟩ : ∃ c, spP keys k = c := ⟨_, rfl⟩
    have hcl : c < 18446744073709551616 := by rw [← hc]; exact spP_lt HK.out k (by rw [HN.out]; exact hkn)
    rw [hc]
    have HC := Lib.hid hc
    clear hc
    by_cases hlt : k < n
    · obtain ⟨b, off, cap2, x, e9, hx, hcx⟩ := Slc.at_map (fun z : Nat => Value.int .u64 (z : Int)) (by rw [HN.out]; exact HV.out) k (by rw [HN.out]; exact hlt)
      rw [HN.out] at e9
      cases e9
      obtain ⟨b0, off0, cap0, x0, e9, hx0, hcx0⟩ := Slc.at_map (fun z : Nat => Value.int .u64 (z : Int)) (by rw [HN.out]; exact HV.out) 0 (by rw [HN.out]; omega)
      rw [HN.out] at e9
      cases e9
      have hxl := HK.out x (List.mem_of_getElem? hx)
      have hx0l := HK.out x0 (List.mem_of_getElem? hx0)
      have HST := Lib.hid (spP_succ hx)
      have HH := Lib.hid (head_at hx0)
      have b1 : bits BinOp.xor IntKind.u64 (x : Int) (x0 : Int) = ((x ^^^ x0 : Nat) : Int) := u64_xor_nat x x0 hxl hx0l
      have hxx := xor_lt64 hxl hx0l
      have b2 : bits BinOp.or IntKind.u64 (c : Int) ((x ^^^ x0 : Nat) : Int) = ((c ||| (x ^^^ x0) : Nat) : Int) := u64_or_nat c (x ^^^ x0) hcl hxx
      rw [Nat.add_zero] at hcx0
      clear hx hx0
      go_wp2
      go_roundw
      case rel => exact ⟨k + 1, by omega, by go_num, by rw [HST.out, HC.out, HH.out], trivial⟩
      case measure => simp [intOf]; omega
    · have hkn2 : k = n := by omega
      subst hkn2
      go_wp2
      go_ret
      exact ⟨ret_i (by rw [← HA.out, HC.out]), rfl⟩
end Go.Proofs.YtbdbpamefkgelaaGreatDoor

/- Layer 17, walked: the keys of lists. -/
namespace Go.Proofs.YtbdbpamefkgelaaGreatDoor
set_option maxRecDepth 100000
open Go.RowKit Fl
set_option linter.unusedVariables false

/-- The keys of a whole number, of a character. -/
def kI (n : Int) : Nat := (n + 9223372036854775808).toNat
def kR (r : Int) : Nat := (r + 2147483648).toNat
theorem xor_hi {b n : Nat} (h : b < 2 ^ n) : b ^^^ 2 ^ n = 2 ^ n + b := by
  apply Nat.eq_of_testBit_eq
  intro j
  have e9 := Nat.two_pow_add_eq_or_of_lt h 1
  rw [Nat.mul_one] at e9
  rw [Nat.testBit_xor, Nat.testBit_two_pow, e9, Nat.testBit_or, Nat.testBit_two_pow]
  by_cases e : n = j
  · subst e
    rw [Nat.testBit_lt_two_pow h]; simp
  · simp [e]
theorem xor_lo {b n : Nat} (h : b < 2 ^ n) : (2 ^ n + b) ^^^ 2 ^ n = b := by
  rw [← xor_hi h, Nat.xor_assoc, Nat.xor_self, Nat.xor_zero]
theorem key_i64 {n : Int} (h1 : -9223372036854775808 ≤ n) (h2 : n ≤ 9223372036854775807) : bits BinOp.xor IntKind.u64 (IntKind.u64.wrap n) 9223372036854775808 = ((kI n : Nat) : Int) := by
  unfold kI
  by_cases h : 0 ≤ n
  · obtain ⟨a, rfl⟩ := Int.eq_ofNat_of_zero_le h
    rw [show IntKind.u64.wrap ((a : Nat) : Int) = ((a : Nat) : Int) by rw [IntKind.wrap_u64]; omega, show (9223372036854775808 : Int) = ((2 ^ 63 : Nat) : Int) from rfl, u64_xor_nat a (2 ^ 63) (by omega) (by decide), xor_hi (show a < 2 ^ 63 by omega)]
    omega
  · obtain ⟨b, hb⟩ : ∃ b : Nat, n + 9223372036854775808 = (b : Int) := ⟨(n + 9223372036854775808).toNat, by omega⟩
    have hb2 : b < 2 ^ 63 := by omega
    rw [show IntKind.u64.wrap n = ((2 ^ 63 + b : Nat) : Int) by rw [IntKind.wrap_u64]; omega, show (9223372036854775808 : Int) = ((2 ^ 63 : Nat) : Int) from rfl, u64_xor_nat (2 ^ 63 + b) (2 ^ 63) (by omega) (by decide), xor_lo hb2]
    omega
theorem key_i32 {n : Int} (h1 : -2147483648 ≤ n) (h2 : n ≤ 2147483647) : bits BinOp.xor IntKind.u32 (IntKind.u32.wrap n) 2147483648 = ((kR n : Nat) : Int) := by
  unfold kR
  by_cases h : 0 ≤ n
  · obtain ⟨a, rfl⟩ := Int.eq_ofNat_of_zero_le h
    rw [show IntKind.u32.wrap ((a : Nat) : Int) = ((a : Nat) : Int) by rw [IntKind.wrap_u32]; omega, show (2147483648 : Int) = ((2 ^ 31 : Nat) : Int) from rfl, u32_xor_nat a (2 ^ 31) (by omega) (by decide), xor_hi (show a < 2 ^ 31 by omega)]
    omega
  · obtain ⟨b, hb⟩ : ∃ b : Nat, n + 2147483648 = (b : Int) := ⟨(n + 2147483648).toNat, by omega⟩
    have hb2 : b < 2 ^ 31 := by omega
    rw [show IntKind.u32.wrap n = ((2 ^ 31 + b : Nat) : Int) by rw [IntKind.wrap_u32]; omega, show (2147483648 : Int) = ((2 ^ 31 : Nat) : Int) from rfl, u32_xor_nat (2 ^ 31 + b) (2 ^ 31) (by omega) (by decide), xor_lo hb2]
    omega
theorem kI_lt {n : Int} (h1 : -9223372036854775808 ≤ n) (h2 : n ≤ 9223372036854775807) : kI n < 18446744073709551616 := by unfold kI; omega
theorem kR_lt {n : Int} (h1 : -2147483648 ≤ n) (h2 : n ≤ 2147483647) : kR n < 4294967296 := by unfold kR; omega
theorem rxkey2_calls (n : Int) (w : World) (h1 : -9223372036854775808 ≤ n) (h2 : n ≤ 9223372036854775807) : Calls Tryz.prog 101 #[.int .i64 n] w fun e w' => e = .returned (.int .u64 ((kI n : Nat) : Int)) ∧ w = w' := by
  have HK := Lib.hid (key_i64 h1 h2)
  go_enter Tryz.func101, Tryz.ntmps101
  go_wp2
  go_ret
  exact ⟨ret_i HK.out, rfl⟩
theorem rxkey1_calls (n : Int) (w : World) (h1 : -2147483648 ≤ n) (h2 : n ≤ 2147483647) : Calls Tryz.prog 98 #[.int .i32 n] w fun e w' => e = .returned (.int .u64 ((kR n : Nat) : Int)) ∧ w = w' := by
  have HK := Lib.hid (key_i32 h1 h2)
  rw [IntKind.wrap_u32] at HK
  have HL := Lib.hid (kR_lt h1 h2)
  go_enter Tryz.func98, Tryz.ntmps98
  go_wp2
  go_ret
  exact ⟨ret_i (by rw [HK.out]; (try (rw [IntKind.wrap_u64]; have := HL.out; omega))), rfl⟩
theorem run_mkU (n : Nat) (hn : n ≤ 2000000) (w : World) : (Instr.makeSlice 80 (.int .i64 (n : Int)) (.int .i64 (n : Int))).run Tryz.prog w = .ok (.slice (some ⟨w.heap.size, 0, none⟩) n n) (w.alloc (.cells (zerosV (.int .u64 0) n) 111)) := by
  obtain ⟨i0, hi, hz0, hz1, hz2⟩ := info_parts (show (Tryz.prog.info? 111).map (fun i => (i.zero, i.size, i.bytes)) = some (some (.int .u64 0), 1, 8) by kernel_rfl)
  have hr := run_make (P := Tryz.prog) w 80 111 i0 _ Tryz.underlying80 hi hz0 .i64 .i64 n n (by omega) (Int.le_refl _) (by rw [hz2]; omega) (by omega)
  simp only [Int.toNat_natCast, hz1] at hr
  exact hr
theorem u64s_fill {l : List Nat} {k x : Nat} (h : l[k]? = some x) : (fillTo (u64s l) (.int .u64 0) k).set k (.int .u64 (x : Int)) = fillTo (u64s l) (.int .u64 0) (k + 1) := by
  have hk : k < (u64s l).length := by rw [u64s_len]; exact (List.getElem?_eq_some_iff.1 h).1
  have e : (u64s l)[k] = .int .u64 (x : Int) := by
    rw [u64s_get]
    obtain ⟨h1, h2⟩ := List.getElem?_eq_some_iff.1 h
    rw [h2]
  rw [← e, fillTo_set _ _ _ hk]
set_option maxHeartbeats 4000000 in
theorem rxkeysR_calls {ok : Nat → Prop} (v : Value) (l : List Int) (w : World) (hv : Slc w ok v l.length (i32s l)) (hm : l.length ≤ 1048576) (hr : ∀ x ∈ l, -2147483648 ≤ x ∧ x ≤ 2147483647) :
    Calls Tryz.prog 96 #[v, .func (.func 98) #[] #[]] w fun e w' => ∃ u, e = .returned u ∧ Slc w' (fun b => w.heap.size ≤ b) u l.length (u64s (l.map kR)) ∧ Below w.heap.size w w' := by
  have HV := Lib.hid hv
  have HR := Lib.hid hr
  obtain ⟨ao, cap, rfl, _⟩ := hv.opened
  obtain ⟨K, hK⟩ : ∃ K, l.map kR = K := ⟨_, rfl⟩
  obtain ⟨n, hn⟩ : ∃ n, l.length = n := ⟨_, rfl⟩
  have HN := Lib.hid hn
  have HKL := Lib.hid (show (u64s K).length = n by rw [u64s_len, ← hK, List.length_map, hn])
  have HKA := Lib.hid (show ∀ (i : Nat) (x : Int), l[i]? = some x → K[i]? = some (kR x) from fun i x h => by rw [← hK, List.getElem?_map, h]; rfl)
  rw [hK]
  rw [hn] at hm HV ⊢
  clear hv hr hn hK
  have hmk := run_mkU n (by omega) w
  obtain ⟨W0, hW0⟩ : ∃ W0, W0 = w.alloc (.cells (zerosV (.int .u64 0) n) 111) := ⟨_, rfl⟩
  have HO0 : Hid (W0.ownsRow w.heap.size 111 1 (.slice (some ⟨w.heap.size, 0, none⟩) n n) n (fillTo (u64s K) (.int .u64 0) 0)) := Lib.hid (by rw [hW0, fillTo_zero, HKL.out]; exact own_make1 _ _ _ (by omega) _ _ (Nat.le_refl _))
  have HW := Lib.hid (show Below w.heap.size w W0 by rw [hW0]; exact below_new _ _)
  go_enter Tryz.func96, Tryz.ntmps96
  go_wp2
  rw [← hW0]
  clear hW0 hmk
  go_loopw [13] (fun iv wr => ∃ k : Nat, k ≤ n ∧ iv = .int .i64 k ∧ wr.ownsRow w.heap.size 111 1 (.slice (some ⟨w.heap.size, 0, none⟩) n n) n (fillTo (u64s K) (.int .u64 0) k) ∧ Below w.heap.size w wr) (fun iv _ => n - (intOf iv).toNat)
  case atStart => exact ⟨0, by omega, rfl, HO0.out, HW.out⟩
  case round =>
    obtain ⟨k, hk, rfl, hown, hB⟩ := hrel
    have HO := Lib.hid hown
    have HB := Lib.hid hB
    clear hown hB HO0 HW
    by_cases hlt : k < n
    · have HV2 := Lib.hid (HV.out.below HB.out)
      obtain ⟨b, off, cap2, x, e9, hx, hcx⟩ := Slc.at_map (Value.int .i32) (by rw [HN.out]; exact HV2.out) k (by rw [HN.out]; exact hlt)
      rw [HN.out] at e9
      cases e9
      have HX := Lib.hid (HR.out x (List.mem_of_getElem? hx))
      have HKX := Lib.hid (HKA.out k x hx)
      clear hx
      have hcw := owns_cell HO.out k (by rw [fillTo_len _ _ _ (by rw [HKL.out]; exact hk), HKL.out]; exact hlt)
      have hfr := World.ownsRow.frozenAt HO.out k
      go_wp2_with fail
      refine (rxkey1_calls x _ HX.out.1 HX.out.2).mono ?_
      rintro e w9 ⟨rfl, rfl⟩
      go_wp2
      go_roundw
      case rel =>
        refine ⟨k + 1, by omega, by go_num, ?_, HB.out.setCell (Nat.le_refl _) _⟩
        have := (World.ownsRow.stored HO.out k (.int .u64 ((kR x : Nat) : Int))).1
        rw [u64s_fill HKX.out] at this
        exact this
      case measure => simp [intOf]; omega
    · have HE := Lib.hid (show Slc wr (fun b => w.heap.size ≤ b) (.slice (some ⟨w.heap.size, 0, none⟩) n n) n (u64s K) by
        have := Slc.owned HO.out
        rw [show k = n by omega, ← HKL.out, fillTo_all, HKL.out] at this
        exact this)
      go_wp2
      go_ret
      exact ⟨_, rfl, HE.out, HB.out⟩
set_option maxHeartbeats 4000000 in
theorem rxkeysI_calls {ok : Nat → Prop} (v : Value) (l : List Int) (w : World) (hv : Slc w ok v l.length (ints l)) (hm : l.length ≤ 1048576) (hr : ∀ x ∈ l, -9223372036854775808 ≤ x ∧ x ≤ 9223372036854775807) :
    Calls Tryz.prog 100 #[v, .func (.func 101) #[] #[]] w fun e w' => ∃ u, e = .returned u ∧ Slc w' (fun b => w.heap.size ≤ b) u l.length (u64s (l.map kI)) ∧ Below w.heap.size w w' := by
  have HV := Lib.hid hv
  have HR := Lib.hid hr
  obtain ⟨ao, cap, rfl, _⟩ := hv.opened
  obtain ⟨K, hK⟩ : ∃ K, l.map kI = K := ⟨_, rfl⟩
  obtain ⟨n, hn⟩ : ∃ n, l.length = n := ⟨_, rfl⟩
  have HN := Lib.hid hn
  have HKL := Lib.hid (show (u64s K).length = n by rw [u64s_len, ← hK, List.length_map, hn])
  have HKA := Lib.hid (show ∀ (i : Nat) (x : Int), l[i]? = some x → K[i]? = some (kI x) from fun i x h => by rw [← hK, List.getElem?_map, h]; rfl)
  rw [hK]
  rw [hn] at hm HV ⊢
  clear hv hr hn hK
  have hmk := run_mkU n (by omega) w
  obtain ⟨W0, hW0⟩ : ∃ W0, W0 = w.alloc (.cells (zerosV (.int .u64 0) n) 111) := ⟨_, rfl⟩
  have HO0 : Hid (W0.ownsRow w.heap.size 111 1 (.slice (some ⟨w.heap.size, 0, none⟩) n n) n (fillTo (u64s K) (.int .u64 0) 0)) := Lib.hid (by rw [hW0, fillTo_zero, HKL.out]; exact own_make1 _ _ _ (by omega) _ _ (Nat.le_refl _))
  have HW := Lib.hid (show Below w.heap.size w W0 by rw [hW0]; exact below_new _ _)
  go_enter Tryz.func100, Tryz.ntmps100
  go_wp2
  rw [← hW0]
  clear hW0 hmk
  go_loopw [13] (fun iv wr => ∃ k : Nat, k ≤ n ∧ iv = .int .i64 k ∧ wr.ownsRow w.heap.size 111 1 (.slice (some ⟨w.heap.size, 0, none⟩) n n) n (fillTo (u64s K) (.int .u64 0) k) ∧ Below w.heap.size w wr) (fun iv _ => n - (intOf iv).toNat)
  case atStart => exact ⟨0, by omega, rfl, HO0.out, HW.out⟩
  case round =>
    obtain ⟨k, hk, rfl, hown, hB⟩ := hrel
    have HO := Lib.hid hown
    have HB := Lib.hid hB
    clear hown hB HO0 HW
    by_cases hlt : k < n
    · have HV2 := Lib.hid (HV.out.below HB.out)
      obtain ⟨b, off, cap2, x, e9, hx, hcx⟩ := Slc.at_map (Value.int .i64) (by rw [HN.out]; exact HV2.out) k (by rw [HN.out]; exact hlt)
      rw [HN.out] at e9
      cases e9
      have HX := Lib.hid (HR.out x (List.mem_of_getElem? hx))
      have HKX := Lib.hid (HKA.out k x hx)
      clear hx
      have hcw := owns_cell HO.out k (by rw [fillTo_len _ _ _ (by rw [HKL.out]; exact hk), HKL.out]; exact hlt)
      have hfr := World.ownsRow.frozenAt HO.out k
      go_wp2_with fail
      refine (rxkey2_calls x _ HX.out.1 HX.out.2).mono ?_
      rintro e w9 ⟨rfl, rfl⟩
      go_wp2
      go_roundw
      case rel =>
        refine ⟨k + 1, by omega, by go_num, ?_, HB.out.setCell (Nat.le_refl _) _⟩
        have := (World.ownsRow.stored HO.out k (.int .u64 ((kI x : Nat) : Int))).1
        rw [u64s_fill HKX.out] at this
        exact this
      case measure => simp [intOf]; omega
    · have HE := Lib.hid (show Slc wr (fun b => w.heap.size ≤ b) (.slice (some ⟨w.heap.size, 0, none⟩) n n) n (u64s K) by
        have := Slc.owned HO.out
        rw [show k = n by omega, ← HKL.out, fillTo_all, HKL.out] at this
        exact this)
      go_wp2
      go_ret
      exact ⟨_, rfl, HE.out, HB.out⟩

end Go.Proofs.YtbdbpamefkgelaaGreatDoor

/- Layer 17, walked: Pass. -/
namespace Go.Proofs.YtbdbpamefkgelaaGreatDoor
set_option maxRecDepth 100000
open Go.RowKit Fl
set_option linter.unusedVariables false

theorem zL_get {l : List Nat} {k : Nat} {x : Int} (h : (zL l)[k]? = some x) : ∃ p, l[k]? = some p ∧ x = (p : Int) := by
  unfold zL at h
  rw [List.getElem?_map] at h
  cases hp : l[k]? with
  | none => rw [hp] at h; cases h
  | some p => rw [hp] at h; exact ⟨p, rfl, (Option.some.inj h).symm⟩
theorem ints_rowF {f : Nat → Int} {d : Nat} (h : d < 2048) (h2 : d < (ints (rowF f)).length) : (ints (rowF f))[d] = .int .i64 (f d) := by
  apply Option.some.inj
  rw [← List.getElem?_eq_getElem]
  unfold ints
  rw [List.getElem?_map, rowF_at h]; rfl
theorem ints_zT {l : List Nat} {p : Nat} (h : p < (ints (zL l)).length) : ∃ y, (ints (zL l))[p] = .int .i64 y := by
  unfold ints; exact ⟨_, List.getElem_map _⟩
set_option maxHeartbeats 8000000 in
theorem rxpass_calls {ok okA : Nat → Prop} (v va : Value) (keys l : List Nat) (s : Nat) (down : Bool) (w : World) (hv : Slc w ok v keys.length (u64s keys)) (hva : Slc w okA va l.length (ints (zL l))) (hs : s < 64) (hm : keys.length ≤ 1048576) (hml : l.length ≤ 1048576) (hk : ∀ x ∈ keys, x < 18446744073709551616) (hl : ∀ x ∈ l, x < keys.length) :
    Calls Tryz.prog 74 #[v, va, .int .u64 (s : Int), .bool down] w fun e w' => ∃ u, e = .returned u ∧ Slc w' (fun b => w.heap.size ≤ b) u l.length (ints (zL (passL (dgK down (fun i => keys.getD i 0) s) l))) ∧ Below w.heap.size w w' := by
  obtain ⟨n, hn⟩ : ∃ n, l.length = n := ⟨_, rfl⟩
  obtain ⟨dg, hdg⟩ : ∃ dg, dgK down (fun i => keys.getD i 0) s = dg := ⟨_, rfl⟩
  have HDL := Lib.hid (show ∀ i, dg i < 2048 from fun i => by rw [← hdg]; exact dgK_lt _ _ _ _)
  have HDA := Lib.hid (show ∀ x ∈ l, dg x < 2048 from fun i _ => HDL.out i)
  have HDC := Lib.hid (show ∀ (wx : World) (i : Nat), Slc wx ok v keys.length (u64s keys) → i ∈ l → Calls Tryz.prog 102 #[v, .int .i64 (i : Int), .int .u64 (s : Int), .bool down] wx fun e w' => e = .returned (.int .i64 ((dg i : Nat) : Int)) ∧ wx = w' from fun wx i h1 h2 => by rw [← hdg]; exact rxdigit_calls v keys i s down wx h1 (hl i h2) hs hm hk)
  have HV := Lib.hid hv
  have HA := Lib.hid hva
  have HN := Lib.hid hn
  rw [hdg]
  obtain ⟨ao, cap, rfl, _⟩ := hva.opened
  have hsv : ∃ ao cap, v = .slice ao keys.length cap := by obtain ⟨a1, c1, h1, _⟩ := hv.opened; exact ⟨a1, c1, h1⟩
  obtain ⟨av, capv, rfl⟩ := hsv
  obtain ⟨nk, hnk⟩ : ∃ nk, keys.length = nk := ⟨_, rfl⟩
  rw [hnk] at HV HDC ⊢
  rw [hn] at HA hml ⊢
  clear hv hva hm hk hl hn hdg hnk
  obtain ⟨W0, hW0⟩ : ∃ W0, W0 = w.alloc (.cells Tryz.zeroCells146 146) := ⟨_, rfl⟩
  have HO0 : Hid (W0.ownsRow w.heap.size 146 1 (.slice (some ⟨w.heap.size, 0, none⟩) 2048 2048) 2048 (ints (rowF fun d => ((cntL dg l 0 d : Nat) : Int)))) := Lib.hid (by
    rw [hW0, show (rowF fun d => ((cntL dg l 0 d : Nat) : Int)) = rowF fun _ => 0 from rowF_congr fun d _ => by rw [cntL_zero]; rfl, rowF_zero, ints_rep]; exact own_arrD w _ (Nat.le_refl _))
  have HW := Lib.hid (show Below w.heap.size w W0 by rw [hW0]; exact below_new _ _)
  obtain ⟨g, hg⟩ : ∃ g, w.heap.size = g := ⟨_, rfl⟩
  rw [hg] at HO0 HW ⊢
  have HG := Lib.hid hg
  go_enter Tryz.func74, Tryz.ntmps74
  go_wp2
  rw [← hW0]
  clear hW0 hg
  go_loopw [20] (fun iv wr => ∃ k : Nat, k ≤ n ∧ iv = .int .i64 k ∧ wr.ownsRow g 146 1 (.slice (some ⟨g, 0, none⟩) 2048 2048) 2048 (ints (rowF fun d => ((cntL dg l k d : Nat) : Int))) ∧ Below g w wr) (fun iv _ => n - (intOf iv).toNat)
  case atStart => exact ⟨0, by omega, rfl, HO0.out, HW.out⟩
  case round =>
    obtain ⟨k, hk, rfl, hown, hB⟩ := hrel
    have HO := Lib.hid hown
    have HB := Lib.hid hB
    clear hown hB HO0 HW
    by_cases hlt : k < n
    · have hBw : Below w.heap.size w wr := by rw [HG.out]; exact HB.out
      have HV2 := Lib.hid (HV.out.below hBw)
      have HA2 := Lib.hid (HA.out.below hBw)
      clear hBw
      obtain ⟨b, off, cap2, x, e9, hx, hcx⟩ := Slc.at_map (Value.int .i64) (l := zL l) (by rw [zL_len, HN.out]; exact HA2.out) k (by rw [zL_len, HN.out]; exact hlt)
      rw [zL_len, HN.out] at e9
      cases e9
      obtain ⟨p, hp, rfl⟩ := zL_get hx
      have HP := Lib.hid hp
      have HPM := Lib.hid (List.mem_of_getElem? hp)
      clear hx hp
      obtain ⟨D, hD⟩ : ∃ D, dg p = D := ⟨_, rfl⟩
      have hDl : D < 2048 := by rw [← hD]; exact HDL.out p
      have HD := Lib.hid hD
      obtain ⟨c, hc⟩ : ∃ c, cntL dg l k D = c := ⟨_, rfl⟩
      have hck : c ≤ k := by rw [← hc]; exact cntL_le _ _ _ _
      have hcw := owns_cell HO.out D (by rw [ints_len, rowF_len]; exact hDl)
      rw [ints_rowF hDl] at hcw
      simp only [hc] at hcw
      have hfr := World.ownsRow.frozenAt HO.out D
      have HC := Lib.hid hc
      clear hc hD
      go_wp2_with fail
      refine (HDC.out _ p HV2.out HPM.out).mono ?_
      rintro e w9 ⟨rfl, rfl⟩
      rw [HD.out]
      go_wp2
      go_roundw
      case rel =>
        refine ⟨k + 1, by omega, by go_num, ?_, HB.out.setCell (Nat.le_refl _) _⟩
        have := (World.ownsRow.stored HO.out D (.int .i64 ((c : Int) + 1))).1
        rw [ints_set, rowF_set] at this
        rw [show (rowF fun d => ((cntL dg l (k + 1) d : Nat) : Int)) = rowF (fun e => if e = D then (c : Int) + 1 else ((cntL dg l k e : Nat) : Int)) from rowF_congr fun d _ => by
          rw [cntL_succ HP.out d, HD.out]
          by_cases h : d = D
          · rw [if_pos h, if_pos h, h, HC.out]; rfl
          · rw [if_neg h, if_neg h]]
        exact this
      case measure => simp [intOf]; omega
    · have hkn : k = n := by omega
      have HO2 := Lib.hid (show wr.ownsRow g 146 1 (.slice (some ⟨g, 0, none⟩) 2048 2048) 2048 (ints (rowF fun e => if e < 0 then ((stL dg l e : Nat) : Int) else ((cntL dg l n e : Nat) : Int))) by
        rw [← hkn]; exact HO.out)
      clear HO hkn
      go_wp2
      go_loopw [12, 34] (fun av iv wq => ∃ d : Nat, d ≤ 2048 ∧ iv = .int .i64 d ∧ av = .int .i64 ((stL dg l d : Nat) : Int) ∧ wq.ownsRow g 146 1 (.slice (some ⟨g, 0, none⟩) 2048 2048) 2048 (ints (rowF fun e => if e < d then ((stL dg l e : Nat) : Int) else ((cntL dg l n e : Nat) : Int))) ∧ Below g w wq) (fun _ iv _ => 2048 - (intOf iv).toNat)
      case atStart => exact ⟨0, by omega, rfl, rfl, HO2.out, HB.out⟩
      case round =>
        obtain ⟨d, hd, rfl, rfl, hown, hB⟩ := hrel
        clear HO2 HB
        have HO := Lib.hid hown
        have HB := Lib.hid hB
        clear hown hB
        have hstl := stL_le (dg := dg) (l := l) d hd HDA.out
        rw [HN.out] at hstl
        by_cases hlt2 : d < 2048
        · obtain ⟨c, hc⟩ : ∃ c, cntL dg l n d = c := ⟨_, rfl⟩
          have hck : c ≤ n := by rw [← hc]; exact cntL_le _ _ _ _
          obtain ⟨A, hA⟩ : ∃ A, stL dg l d = A := ⟨_, rfl⟩
          rw [hA] at hstl ⊢
          have hcw := owns_cell HO.out d (by rw [ints_len, rowF_len]; exact hlt2)
          rw [ints_rowF hlt2] at hcw
          simp only [Nat.lt_irrefl, if_false, hc] at hcw
          have hfr := World.ownsRow.frozenAt HO.out d
          have HC := Lib.hid hc
          have HST := Lib.hid hA
          clear hc hA
          go_wp2
          go_roundw
          case rel =>
            refine ⟨d + 1, by omega, by go_num, ?_, ?_, HB.out.setCell (Nat.le_refl _) _⟩
            · rw [stL_succ, HST.out, HN.out, HC.out]; go_num
            · have := (World.ownsRow.stored HO.out d (.int .i64 (A : Int))).1
              rw [ints_set, rowF_set] at this
              rw [show (rowF fun e => if e < d + 1 then ((stL dg l e : Nat) : Int) else ((cntL dg l n e : Nat) : Int)) = rowF (fun e => if e = d then (A : Int) else (if e < d then ((stL dg l e : Nat) : Int) else ((cntL dg l n e : Nat) : Int))) from rowF_congr fun e _ => by
                by_cases h : e = d
                · rw [if_pos h, if_pos (by omega), h, HST.out]
                · rw [if_neg h]
                  by_cases h2 : e < d
                  · rw [if_pos h2, if_pos (by omega)]
                  · rw [if_neg h2, if_neg (by omega)]]
              exact this
          case measure => simp [intOf]; omega
        · have hd2 : d = 2048 := by omega
          have HO3 := Lib.hid (show wr.ownsRow g 146 1 (.slice (some ⟨g, 0, none⟩) 2048 2048) 2048 (ints (rowF fun e => ((stL dg l e + cntL dg l 0 e : Nat) : Int))) by
            rw [show (rowF fun e => ((stL dg l e + cntL dg l 0 e : Nat) : Int)) = rowF (fun e => if e < d then ((stL dg l e : Nat) : Int) else ((cntL dg l n e : Nat) : Int)) from rowF_congr fun e he => by
              rw [if_pos (by omega), cntL_zero, Nat.add_zero]]
            exact HO.out)
          clear HO hd2 hstl
          have hmk := run_mkI3 n (by omega) wr
          obtain ⟨W1, hW1⟩ : ∃ W1, W1 = wr.alloc (.cells (zerosV (.int .i64 0) n) 3) := ⟨_, rfl⟩
          obtain ⟨g1, hg1⟩ : ∃ g1, wr.heap.size = g1 := ⟨_, rfl⟩
          have HZ0 : Hid (W1.ownsRow g 3 1 (.slice (some ⟨g1, 0, none⟩) n n) n (ints (zL (plcT dg l 0)))) := Lib.hid (by
            have := own_make1 (.int .i64 0) 3 n (by omega) wr g (by have := HB.out.size; rw [HG.out] at this; exact this)
            rw [hW1]; unfold plcT; rw [HN.out, zL_rep, ints_rep, ← hg1]; exact this)
          have HOA := Lib.hid (show W1.ownsRow g 146 1 (.slice (some ⟨g, 0, none⟩) 2048 2048) 2048 (ints (rowF fun e => ((stL dg l e + cntL dg l 0 e : Nat) : Int))) by rw [hW1]; exact HO3.out.alloc _)
          have HBA := Lib.hid (show Below g w W1 by rw [hW1]; exact HB.out.alloc (by have := HB.out.size; rw [HG.out] at this; exact this) _)
          have HG1 := Lib.hid (show g < g1 by have := (HO3.out.lt g rfl).2; omega)
          rw [hg1] at hmk
          rw [← hW1] at hmk
          clear hW1 HO3 HB hg1
          go_wp2
          clear hmk
          go_loopw [51] (fun iv wz => ∃ k : Nat, k ≤ n ∧ iv = .int .i64 k ∧ wz.ownsRow g 146 1 (.slice (some ⟨g, 0, none⟩) 2048 2048) 2048 (ints (rowF fun e => ((stL dg l e + cntL dg l k e : Nat) : Int))) ∧ wz.ownsRow g 3 1 (.slice (some ⟨g1, 0, none⟩) n n) n (ints (zL (plcT dg l k))) ∧ Below g w wz) (fun iv _ => n - (intOf iv).toNat)
          case atStart => exact ⟨0, by omega, rfl, HOA.out, HZ0.out, HBA.out⟩
          case round =>
            obtain ⟨j, hj, rfl, hown, hownz, hB⟩ := hrel
            clear HOA HZ0 HBA
            have HO := Lib.hid hown
            have HZ := Lib.hid hownz
            have HB := Lib.hid hB
            clear hown hownz hB
            by_cases hlt3 : j < n
            · have hBw : Below w.heap.size w wr := by rw [HG.out]; exact HB.out
              have HV2 := Lib.hid (HV.out.below hBw)
              have HA2 := Lib.hid (HA.out.below hBw)
              clear hBw
              obtain ⟨b, off, cap2, x, e9, hx, hcx⟩ := Slc.at_map (Value.int .i64) (l := zL l) (by rw [zL_len, HN.out]; exact HA2.out) j (by rw [zL_len, HN.out]; exact hlt3)
              rw [zL_len, HN.out] at e9
              cases e9
              obtain ⟨p, hp, rfl⟩ := zL_get hx
              have HP := Lib.hid hp
              have HPM := Lib.hid (List.mem_of_getElem? hp)
              have hpd : l.getD j 0 = p := by rw [List.getD_eq_getElem?_getD, hp]; rfl
              clear hx hp
              obtain ⟨D, hD⟩ : ∃ D, dg p = D := ⟨_, rfl⟩
              have hDl : D < 2048 := by rw [← hD]; exact HDL.out p
              have HD := Lib.hid hD
              obtain ⟨q, hq⟩ : ∃ q, stL dg l D + cntL dg l j D = q := ⟨_, rfl⟩
              have hqn : q < n := by
                have := posL_lt HDA.out (k := j) (by rw [HN.out]; exact hlt3)
                unfold posL at this
                rw [hpd, hD, hq, HN.out] at this
                exact this
              have HPO := Lib.hid (show posL dg l j = q by unfold posL; rw [hpd, hD, hq])
              have HPD := Lib.hid hpd
              have hcw := owns_cell HO.out D (by rw [ints_len, rowF_len]; exact hDl)
              rw [ints_rowF hDl] at hcw
              simp only [hq] at hcw
              have hfr := World.ownsRow.frozenAt HO.out D
              have hcz := owns_cell HZ.out q (by rw [ints_len, zL_len, plcT_len, HN.out]; exact hqn)
              obtain ⟨y, hy⟩ := ints_zT (l := plcT dg l j) (p := q) (by rw [ints_len, zL_len, plcT_len, HN.out]; exact hqn)
              rw [hy] at hcz
              have hfz := World.ownsRow.frozenAt HZ.out q
              have HQ := Lib.hid hq
              have hgn : (g = g1) = False := by have := HG1.out; simp; omega
              have hgn2 : (g1 = g) = False := by have := HG1.out; simp; omega
              clear hq hD hy hpd
              go_wp2_with fail
              refine (HDC.out _ p HV2.out HPM.out).mono ?_
              rintro e w9 ⟨rfl, rfl⟩
              rw [HD.out]
              go_wp2
              go_roundw
              case rel =>
                refine ⟨j + 1, by omega, by go_num, ?_, ?_, (HB.out.setCell (show g ≤ g1 by have := HG1.out; omega) _).setCell (Nat.le_refl _) _⟩
                · have h1 := ownsRow_setCell_other HO.out (a := ⟨g1, q, none⟩) (by have := HG1.out; intro h; simp [Value.ownBlock] at h; omega) (.int .i64 (p : Int))
                  have := (World.ownsRow.stored h1 D (.int .i64 ((q : Int) + 1))).1
                  rw [ints_set, rowF_set] at this
                  rw [show (rowF fun d => ((stL dg l d + cntL dg l (j + 1) d : Nat) : Int)) = rowF (fun e => if e = D then (q : Int) + 1 else ((stL dg l e + cntL dg l j e : Nat) : Int)) from rowF_congr fun d _ => by
                    rw [cntL_succ HP.out d, HD.out]
                    by_cases h : d = D
                    · rw [if_pos h, if_pos h, h, ← HQ.out]; omega
                    · rw [if_neg h, if_neg h]]
                  exact this
                · have h1 := (World.ownsRow.stored HZ.out q (.int .i64 (p : Int))).1
                  have := ownsRow_setCell_other h1 (a := ⟨g, D, none⟩) (by have := HG1.out; intro h; simp [Value.ownBlock] at h; omega) (.int .i64 ((q : Int) + 1))
                  rw [ints_set, zL_set] at this
                  unfold plcT
                  rw [HPO.out, HPD.out]
                  exact this
              case measure => simp [intOf]; omega
            · have hjn : j = n := by omega
              have HE := Lib.hid (show Slc wr (fun b => g ≤ b) (.slice (some ⟨g1, 0, none⟩) n n) n (ints (zL (passL dg l))) by
                have := Slc.owned HZ.out
                rw [hjn, ← HN.out, plcT_all HDA.out, HN.out] at this
                exact this)
              clear hjn
              go_wp2
              go_ret
              exact ⟨_, rfl, HE.out, HB.out⟩
end Go.Proofs.YtbdbpamefkgelaaGreatDoor

/- Layer 17, walked: the reference's Pass. -/
namespace Go.Proofs.YtbdbpamefkgelaaGreatDoor
set_option maxRecDepth 100000
open Go.RowKit Fl
set_option linter.unusedVariables false

theorem own_lower {w : World} {b1 b2 : Nat} {e : TypeId} {v : Value} {n : Nat} {xs : List Value} (h : w.ownsRow b1 e 1 v n xs) (hb : b2 ≤ b1) : w.ownsRow b2 e 1 v n xs := by
  refine ⟨h.1, ?_⟩
  rcases h.2 with h2 | ⟨g, cap, cur, h1, h2, h3⟩
  · exact .inl h2
  · exact .inr ⟨g, cap, cur, h1, Nat.le_trans hb h2, h3⟩
theorem zL_app (a b : List Nat) : zL (a ++ b) = zL a ++ zL b := by unfold zL; rw [List.map_append]
theorem zL_drop (l : List Nat) (k : Nat) : zL (l.drop k) = (zL l).drop k := by unfold zL; rw [List.map_drop]
theorem ints_append2 (a b : List Int) : ints (a ++ b) = ints a ++ ints b := by unfold ints; rw [List.map_append]
end Go.Proofs.YtbdbpamefkgelaaGreatDoor

/- Layer 17, walked: the reference's Bits. -/
namespace Go.Proofs.YtbdbpamefkgelaaGreatDoor
set_option maxRecDepth 100000
open Go.RowKit Fl
set_option linter.unusedVariables false

/-- Places of truths in order: those like 'down' first. -/
def bsL (l : List Bool) (down : Bool) : List Nat := (List.range l.length).filter (fun j => sq l j == down) ++ (List.range l.length).filter (fun j => !(sq l j == down))
theorem onesTo_zL (F : Nat → Bool) (k : Nat) : onesTo F k = zL ((List.range k).filter F) := rfl
theorem bsL_zL (l : List Bool) (down : Bool) : zL (bsL l down) = onesTo (fun j => sq l j == down) l.length ++ onesTo (fun j => !(sq l j == down)) l.length := by
  unfold bsL; rw [zL_app]; rfl
theorem bsL_perm (l : List Bool) (down : Bool) : (bsL l down).Perm (List.range l.length) := by
  unfold bsL; exact List.filter_append_perm _ _
theorem bsL_len (l : List Bool) (down : Bool) : (bsL l down).length = l.length := by rw [(bsL_perm l down).length_eq, List.length_range]
end Go.Proofs.YtbdbpamefkgelaaGreatDoor

/- Layer 17, plain: the keys of a vector have the order of its elements; truths in order. -/
namespace Go.Proofs.YtbdbpamefkgelaaGreatDoor
set_option maxRecDepth 100000
open Go.RowKit Fl
set_option linter.unusedVariables false

/-- Has a vector keys? -/
def VV.keyB (A : VV) : Bool := decide (A.kind = 5) || A.isWh
def keysV (A : VV) : List Nat := if A.kind = 5 then A.text.map kR else A.whs.map kI
theorem pw_two {k : Nat} (h : 1 ≤ k) : 2 ≤ pw k := by
  unfold pw
  have : 2 ^ 1 ≤ 2 ^ k := Nat.pow_le_pow_right (by decide) h
  omega
theorem pw_posI : (0 : Int) < pw 1074 := by exact_mod_cast pw_pos 1074
theorem whs_at {A : VV} (hok : A.ok) (hn : A.nm) (h : A.isWh = true) {i : Nat} (hi : i < A.len) : ∃ z, A.whs[i]? = some z ∧ keyV A i = z * pw 1074 ∧ z.natAbs ≤ 9007199254740992 := by
  obtain ⟨h1, h2, h3⟩ := VV.wh_nums hok hn h
  have hl : A.nums.length = A.len := by cases A <;> first | (simp [VV.nums, VV.len]; done) | cases h
  have hc : A.cls = 0 := by cases A <;> first | rfl | cases h
  have hx : A.nums[i]? = some (A.nums[i]'(by omega)) := List.getElem?_eq_getElem (by omega)
  obtain ⟨n, hw⟩ := h2 _ (List.getElem_mem (show i < A.nums.length by omega))
  refine ⟨n, ?_, ?_, hw.2.1⟩
  · rw [h1, List.getElem?_map, hx]; exact congrArg some (wnOf_wh hw)
  · unfold keyV
    rw [if_pos hc, atI_some hx]; exact hw.2.2
theorem text_at {A : VV} (h : A.kind = 5) {i : Nat} (hi : i < A.len) : ∃ z, A.text[i]? = some z ∧ keyV A i = z := by
  cases A with
  | chars l =>
    have hx : l[i]? = some (l[i]'hi) := List.getElem?_eq_getElem hi
    refine ⟨_, hx, ?_⟩
    unfold keyV
    rw [if_neg (show ¬ (VV.chars l).cls = 0 by simp [VV.cls])]
    exact atI_some (l := l) hx
  | _ => simp [VV.kind] at h
theorem keysV_at {A : VV} (hok : A.ok) (hn : A.nm) (hk : A.keyB = true) {i : Nat} (hi : i < A.len) : ∃ z c : Int, 0 < c ∧ keyV A i = z * c ∧ (c = 1 ↔ A.kind = 5) ∧ (c = 1 ∨ c = pw 1074) ∧ (keysV A)[i]? = some (if A.kind = 5 then kR z else kI z) ∧ (A.kind = 5 → A.text[i]? = some z) ∧ (A.kind ≠ 5 → z.natAbs ≤ 9007199254740992) := by
  by_cases h : A.kind = 5
  · obtain ⟨z, h1, h2⟩ := text_at h hi
    refine ⟨z, 1, by decide, by rw [h2]; omega, ⟨fun _ => h, fun _ => rfl⟩, Or.inl rfl, ?_, fun _ => h1, fun h3 => absurd h h3⟩
    unfold keysV; rw [if_pos h, if_pos h, List.getElem?_map, h1]; rfl
  · have hw : A.isWh = true := by unfold VV.keyB at hk; rw [decide_eq_false h, Bool.false_or] at hk; exact hk
    obtain ⟨z, h1, h2, h3⟩ := whs_at hok hn hw hi
    have hp1 : ¬ ((pw 1074 : Nat) : Int) = 1 := by
      have := pw_two (show 1 ≤ 1074 by decide)
      omega
    refine ⟨z, pw 1074, pw_posI, h2, ⟨fun e => absurd e hp1, fun e => absurd e h⟩, Or.inr rfl, ?_, fun e => absurd e h, fun _ => h3⟩
    unfold keysV; rw [if_neg h, if_neg h, List.getElem?_map, h1]; rfl
theorem keysV_len {A : VV} (hk : A.keyB = true) : (keysV A).length = A.len := by
  unfold keysV
  cases A <;> first | (simp [VV.kind, VV.whs, VV.text, VV.len]; done) | (simp [VV.keyB, VV.kind, VV.isWh] at hk)
theorem keysV_lt {A : VV} (hok : A.ok) (hn : A.nm) (ht : ∀ z ∈ A.text, -2147483648 ≤ z ∧ z ≤ 2147483647) : ∀ x ∈ keysV A, x < 18446744073709551616 := by
  intro x hx
  unfold keysV at hx
  split at hx
  · obtain ⟨z, hz, rfl⟩ := List.mem_map.1 hx
    have := kR_lt (ht z hz).1 (ht z hz).2; omega
  · obtain ⟨z, hz, rfl⟩ := List.mem_map.1 hx
    by_cases hw : A.isWh = true
    · have := (VV.wh_nums hok hn hw).2.2 z hz
      exact kI_lt (by omega) (by omega)
    · cases A <;> first | (exact absurd rfl hw) | (simp [VV.whs] at hz)
theorem keysV_ord {A : VV} (hok : A.ok) (hn : A.nm) (hk : A.keyB = true) (ht : ∀ z ∈ A.text, -2147483648 ≤ z ∧ z ≤ 2147483647) {i k : Nat} (hi : i < A.len) (hkl : k < A.len) : (keysV A).getD i 0 < (keysV A).getD k 0 ↔ keyV A i < keyV A k := by
  obtain ⟨z1, c1, p1, e1, q1, r1, g1, t1, w1⟩ := keysV_at hok hn hk hi
  obtain ⟨z2, c2, p2, e2, q2, r2, g2, t2, w2⟩ := keysV_at hok hn hk hkl
  have hc : c1 = c2 := by
    by_cases h : A.kind = 5
    · rw [q1.2 h, q2.2 h]
    · rcases r1 with r | r
      · exact absurd (q1.1 r) h
      · rcases r2 with s | s
        · exact absurd (q2.1 s) h
        · rw [r, s]
  subst hc
  rw [List.getD_eq_getElem?_getD, List.getD_eq_getElem?_getD, g1, g2, e1, e2]
  simp only [Option.getD_some]
  have hm : z1 * c1 < z2 * c1 ↔ z1 < z2 := ⟨fun h => Int.lt_of_mul_lt_mul_right h (Int.le_of_lt p1), fun h => Int.mul_lt_mul_of_pos_right h p1⟩
  rw [hm]
  by_cases h : A.kind = 5
  · rw [if_pos h, if_pos h]
    have a1 := ht z1 (List.mem_of_getElem? (t1 h))
    have a2 := ht z2 (List.mem_of_getElem? (t2 h))
    unfold kR; omega
  · rw [if_neg h, if_neg h]
    have a1 := w1 h
    have a2 := w2 h
    unfold kI; omega
theorem bits_key {l : List Bool} (hl : l.length ≤ 1048576) {i : Nat} (hi : i < l.length) : keyV (.bits l) i = if sq l i = true then ((pw 1074 : Nat) : Int) else 0 := by
  obtain ⟨z, h1, h2, _⟩ := whs_at (A := .bits l) hl trivial rfl hi
  rw [h2]
  have hb : l[i]? = some l[i] := List.getElem?_eq_getElem hi
  have e : (l.map flagZ)[i]? = some z := h1
  rw [List.getElem?_map, hb] at e
  have e2 : flagZ l[i] = z := Option.some.inj e
  have e3 : sq l i = l[i] := by simp [sq, hb]
  rw [e3, ← e2]
  unfold flagZ
  cases l[i] <;> simp
theorem bits_so {l : List Bool} (hl : l.length ≤ 1048576) (down : Bool) : IsSo l.length (lesK (keyV (.bits l)) 1 down) (bsL l down) := by
  refine pair_so (bsL_perm l down) ?_
  have hp := pw_posI
  unfold bsL
  rw [List.pairwise_append]
  have same : ∀ (F : Nat → Bool), (∀ x y, F x = true → F y = true → sq l x = sq l y) → ((List.range l.length).filter F).Pairwise (fun x y => lesK (keyV (.bits l)) 1 down x y = true) := by
    intro F hF
    refine List.Pairwise.imp_of_mem (fun {x y} hx hy hxy => ?_) ((range_pair l.length).filter F)
    obtain ⟨x1, x2⟩ := List.mem_filter.1 hx
    obtain ⟨y1, y2⟩ := List.mem_filter.1 hy
    rw [lesK_one, bits_key hl (List.mem_range.1 x1), bits_key hl (List.mem_range.1 y1), hF x y x2 y2]
    exact Or.inr ⟨rfl, hxy⟩
  refine ⟨same _ (fun x y h1 h2 => by rw [eq_of_beq h1, eq_of_beq h2]), same _ (fun x y h1 h2 => by
    revert h1 h2
    cases sq l x <;> cases sq l y <;> cases down <;> simp), fun x hx y hy => ?_⟩
  obtain ⟨x1, x2⟩ := List.mem_filter.1 hx
  obtain ⟨y1, y2⟩ := List.mem_filter.1 hy
  rw [lesK_one, bits_key hl (List.mem_range.1 x1), bits_key hl (List.mem_range.1 y1)]
  revert x2 y2
  cases sq l x <;> cases sq l y <;> cases down <;> simp <;> omega
/-- Passes, one behind the other, each begun at the lowest bit in which keys still differ. -/
def PassIs (keys : List Nat) (down : Bool) (sh : Nat) (a : List Nat) : Prop := a.Perm (List.range keys.length) ∧ a.Pairwise (lsR down (fun i => keys.getD i 0) sh)
theorem getD_mem {keys : List Nat} {x : Nat} (h : x < keys.length) : keys.getD x 0 ∈ keys := by
  rw [List.getD_eq_getElem?_getD, List.getElem?_eq_getElem h]; exact List.getElem_mem h
theorem spB_same {keys : List Nat} {j : Nat} (h : spB keys j = false) {x : Nat} (hx : x < keys.length) : (keys.getD x 0).testBit j = (keys.headD 0).testBit j := by
  have h1 := List.any_eq_false.1 h _ (getD_mem hx)
  simpa using h1
theorem pass_step {keys : List Nat} {down : Bool} {sh r s : Nat} {a : List Nat} (h : PassIs keys down sh a) (hr : RestIs keys sh r) (hs : sh ≤ s) (hs64 : s < 64) (hlow : ∀ j, j < s → r.testBit j = false) : PassIs keys down (s + 11) (passL (dgK down (fun i => keys.getD i 0) s) a) := by
  have hp := passL_perm (dg := dgK down (fun i => keys.getD i 0) s) (l := a) (fun x _ => dgK_lt _ _ _ _)
  refine ⟨hp.trans h.1, lsd_step (lsR_stride hs h.2 fun x hx y hy j h1 h2 => ?_)⟩
  have hxn := List.mem_range.1 (h.1.mem_iff.1 hx)
  have hyn := List.mem_range.1 (h.1.mem_iff.1 hy)
  have h3 := hlow j h2
  rw [hr j, decide_eq_true h1, decide_eq_true (show j < 64 by omega), Bool.true_and, Bool.true_and] at h3
  rw [spB_same h3 hxn, spB_same h3 hyn]
theorem pass_end {keys : List Nat} {down : Bool} {sh : Nat} {a : List Nat} {E : Nat → Int} (h : PassIs keys down sh a) (hr : RestIs keys sh 0) (hk : ∀ x ∈ keys, x < 18446744073709551616) (hE : ∀ i k, i < keys.length → k < keys.length → (keys.getD i 0 < keys.getD k 0 ↔ E i < E k)) : IsSo keys.length (lesK E 1 down) a := by
  by_cases h64 : 64 ≤ sh
  · refine lsd_so (K := fun i => keys.getD i 0) h.1 h.2 (fun i hi => ?_) hE
    exact Nat.lt_of_lt_of_le (hk _ (getD_mem hi)) (Nat.pow_le_pow_right (n := 2) (i := 64) (by decide) h64)
  · refine lsd_so (K := fun i => keys.getD i 0) (sh := 64) h.1 (lsR_stride (by omega) h.2 fun x hx y hy j h1 h2 => ?_) (fun i hi => hk _ (getD_mem hi)) hE
    have hxn := List.mem_range.1 (h.1.mem_iff.1 hx)
    have hyn := List.mem_range.1 (h.1.mem_iff.1 hy)
    have h3 := hr j
    rw [Nat.zero_testBit, decide_eq_true h1, decide_eq_true h2, Bool.true_and, Bool.true_and] at h3
    rw [spB_same h3.symm hxn, spB_same h3.symm hyn]
theorem pass_start (keys : List Nat) (down : Bool) : PassIs keys down 0 (List.range keys.length) := ⟨List.Perm.refl _, lsd_start _ _ _⟩
end Go.Proofs.YtbdbpamefkgelaaGreatDoor

/- Layer 17, walked: Keys. -/
namespace Go.Proofs.YtbdbpamefkgelaaGreatDoor
set_option maxRecDepth 100000
open Go.RowKit Fl
set_option linter.unusedVariables false

theorem text_len9 (A : VV) : A.text.length ≤ A.len := by cases A <;> simp [VV.text, VV.len]
theorem whs_len9 (A : VV) : A.whs.length ≤ A.len := by cases A <;> simp [VV.whs, VV.len]
theorem slc_lower {w : World} {a b : Nat} {s : Value} {n : Nat} {xs : List Value} (h : Slc w (fun x => a ≤ x) s n xs) (hb : b ≤ a) : Slc w (fun x => b ≤ x) s n xs := h.keep (Kept.refl _ _) (fun x _ h2 => Nat.le_trans hb h2)
theorem whs_rng {A : VV} (hok : A.ok) (hn : A.nm) : ∀ z ∈ A.whs, -9223372036854775808 ≤ z ∧ z ≤ 9223372036854775807 := by
  intro z hz
  by_cases hw : A.isWh = true
  · have := (VV.wh_nums hok hn hw).2.2 z hz; omega
  · cases A <;> first | (exact absurd rfl hw) | (simp [VV.whs] at hz)
set_option maxHeartbeats 8000000 in
theorem rxkeys_calls {ok : Nat → Prop} (u : Value) (A : VV) (w : World) (h : IsV w ok u A) (hok : A.ok) (hn : ∀ z ∈ A.whs, -9223372036854775808 ≤ z ∧ z ≤ 9223372036854775807) (ht : ∀ z ∈ A.text, -2147483648 ≤ z ∧ z ≤ 2147483647) (hT : TabAt w) :
    Calls Tryz.prog 71 #[.agg #[u]] w fun e w' => ∃ v, e = .returned (.tuple #[v, .bool A.keyB]) ∧ Slc w' (fun b => w.heap.size ≤ b) v (keysV A).length (u64s (keysV A)) ∧ (A.keyB = false → v = .slice none 0 0) ∧ Below w.heap.size w w' := by
  have hsu := h.store
  obtain ⟨W1, hW1⟩ : ∃ W1, W1 = w.alloc (.cells #[u] 36) := ⟨_, rfl⟩
  have HB := Lib.hid (show Below w.heap.size w W1 by rw [hW1]; exact below_new _ _)
  have HA := Lib.hid (show At1 W1 w.heap.size u by rw [hW1]; exact At1.new w _ _)
  have HU := Lib.hid (show IsV W1 ok u A from h.grow HB.out)
  have HT := Lib.hid (show TabAt W1 from fun j hj => keep_below HB.out _ _ (hT j hj))
  have HOK := Lib.hid hok
  have HN := Lib.hid hn
  have HR := Lib.hid ht
  have HTL := Lib.hid (show A.text.length ≤ 1048576 from Nat.le_trans (text_len9 A) (VV.ok_len hok))
  have HWL := Lib.hid (show A.whs.length ≤ 1048576 from Nat.le_trans (whs_len9 A) (VV.ok_len hok))
  obtain ⟨kd, hkd⟩ : ∃ kd, A.kind = kd := ⟨_, rfl⟩
  have HKD := Lib.hid hkd
  have hfold := hW1.symm
  clear h hW1 hok hn ht hT hkd
  by_cases h5 : kd = 5
  · subst h5
    have HKB := Lib.hid (show A.keyB = true by unfold VV.keyB; rw [HKD.out]; rfl)
    have HKV := Lib.hid (show keysV A = A.text.map kR by unfold keysV; rw [if_pos HKD.out])
    have cHA0 := HA.out.2.1
    go_enter Tryz.func71, Tryz.ntmps71
    go_wp2_with fail
    clear hfold
    refine (kind_calls _ A _ HU.out).mono ?_
    rintro e W11 ⟨rfl, hB⟩
    clear cHA0
    replace HA := Lib.hid (HA.out.below hB)
    replace HB := Lib.hid (HB.out.trans (hB.mono HB.out.size))
    replace HU := Lib.hid (HU.out.grow hB)
    replace HT := Lib.hid (fun j hj => keep_below hB _ _ (HT.out j hj))
    rw [HKD.out]
    clear hB
    have cHA0 := HA.out.2.1
    go_wp2_with fail
    refine (vtext_calls _ A _ HU.out HOK.out).mono ?_
    rintro e W12 ⟨v1, rfl, hv1, hB⟩
    clear cHA0
    replace HA := Lib.hid (HA.out.below hB)
    replace HB := Lib.hid (HB.out.trans (hB.mono HB.out.size))
    replace HU := Lib.hid (HU.out.grow hB)
    replace HT := Lib.hid (fun j hj => keep_below hB _ _ (HT.out j hj))
    have HV := Lib.hid hv1
    clear hv1
    clear hB
    have cHA0 := HA.out.2.1
    go_wp2_with fail
    have HSZ := Lib.hid (HB.out.size)
    refine (rxkeysR_calls v1 A.text _ HV.out HTL.out HR.out).mono ?_
    rintro e W13 ⟨v2, rfl, hv2, hB⟩
    clear cHA0
    replace HA := Lib.hid (HA.out.below hB)
    replace HB := Lib.hid (HB.out.trans (hB.mono HB.out.size))
    replace HU := Lib.hid (HU.out.grow hB)
    replace HT := Lib.hid (fun j hj => keep_below hB _ _ (HT.out j hj))
    replace HV := Lib.hid (HV.out.below hB)
    have HZ := Lib.hid (slc_lower hv2 (show w.heap.size ≤ W12.heap.size from HSZ.out))
    clear hv2
    clear hB
    have cHA0 := HA.out.2.1
    go_wp2_with fail
    go_ret2
    exact ⟨v2, by rw [HKB.out]; rfl, by have := HZ.out; rw [HKV.out, List.length_map]; exact this, fun h => absurd (h.symm.trans HKB.out) (by decide), HB.out⟩
  · have h5t : (kd == 5) = false := by simpa using h5
    have H5 := Lib.hid h5
    obtain ⟨wb, hwb⟩ : ∃ wb, A.isWh = wb := ⟨_, rfl⟩
    have HWB := Lib.hid hwb
    have HKB := Lib.hid (show A.keyB = wb by unfold VV.keyB; rw [HKD.out, decide_eq_false h5, Bool.false_or, hwb])
    have HKV := Lib.hid (show keysV A = A.whs.map kI by unfold keysV; rw [HKD.out, if_neg h5])
    clear h5 hwb
    cases wb
    · have HW0 := Lib.hid (show A.whs = [] by have h := HWB.out; revert h; cases A <;> simp [VV.isWh, VV.whs])
      have cHA0 := HA.out.2.1
      go_enter Tryz.func71, Tryz.ntmps71
      go_wp2_with fail
      clear hfold
      refine (kind_calls _ A _ HU.out).mono ?_
      rintro e W11 ⟨rfl, hB⟩
      clear cHA0
      replace HA := Lib.hid (HA.out.below hB)
      replace HB := Lib.hid (HB.out.trans (hB.mono HB.out.size))
      replace HU := Lib.hid (HU.out.grow hB)
      replace HT := Lib.hid (fun j hj => keep_below hB _ _ (HT.out j hj))
      rw [HKD.out]
      clear hB
      have cHA0 := HA.out.2.1
      go_wp2_with fail
      refine (vwholes_calls _ A _ HU.out HOK.out HT.out).mono ?_
      rintro e W12 ⟨v1, rfl, hv1, hB⟩
      clear cHA0
      replace HA := Lib.hid (HA.out.below hB)
      replace HB := Lib.hid (HB.out.trans (hB.mono HB.out.size))
      replace HU := Lib.hid (HU.out.grow hB)
      replace HT := Lib.hid (fun j hj => keep_below hB _ _ (HT.out j hj))
      rw [HWB.out]
      clear hv1
      clear hB
      have cHA0 := HA.out.2.1
      go_wp2_with fail
      go_ret2
      exact ⟨_, by rw [HKB.out]; rfl, by rw [HKV.out, HW0.out]; exact Slc.nil _ _, fun _ => rfl, HB.out⟩
    · have cHA0 := HA.out.2.1
      go_enter Tryz.func71, Tryz.ntmps71
      go_wp2_with fail
      clear hfold
      refine (kind_calls _ A _ HU.out).mono ?_
      rintro e W11 ⟨rfl, hB⟩
      clear cHA0
      replace HA := Lib.hid (HA.out.below hB)
      replace HB := Lib.hid (HB.out.trans (hB.mono HB.out.size))
      replace HU := Lib.hid (HU.out.grow hB)
      replace HT := Lib.hid (fun j hj => keep_below hB _ _ (HT.out j hj))
      rw [HKD.out]
      clear hB
      have cHA0 := HA.out.2.1
      go_wp2_with fail
      refine (vwholes_calls _ A _ HU.out HOK.out HT.out).mono ?_
      rintro e W12 ⟨v1, rfl, hv1, hB⟩
      clear cHA0
      replace HA := Lib.hid (HA.out.below hB)
      replace HB := Lib.hid (HB.out.trans (hB.mono HB.out.size))
      replace HU := Lib.hid (HU.out.grow hB)
      replace HT := Lib.hid (fun j hj => keep_below hB _ _ (HT.out j hj))
      rw [HWB.out]
      have HV := Lib.hid hv1
      clear hv1
      clear hB
      have cHA0 := HA.out.2.1
      go_wp2_with fail
      have HSZ := Lib.hid (HB.out.size)
      refine (rxkeysI_calls v1 A.whs _ HV.out HWL.out HN.out).mono ?_
      rintro e W13 ⟨v2, rfl, hv2, hB⟩
      clear cHA0
      replace HA := Lib.hid (HA.out.below hB)
      replace HB := Lib.hid (HB.out.trans (hB.mono HB.out.size))
      replace HU := Lib.hid (HU.out.grow hB)
      replace HT := Lib.hid (fun j hj => keep_below hB _ _ (HT.out j hj))
      replace HV := Lib.hid (HV.out.below hB)
      have HZ := Lib.hid (slc_lower hv2 HSZ.out)
      clear hv2
      clear hB
      have cHA0 := HA.out.2.1
      go_wp2_with fail
      go_ret2
      exact ⟨v2, by rw [HKB.out]; rfl, by have := HZ.out; rw [HKV.out, List.length_map]; exact this, fun h => absurd (h.symm.trans HKB.out) (by decide), HB.out⟩
end Go.Proofs.YtbdbpamefkgelaaGreatDoor

/- Ones hands back a row of its own. -/
namespace Go.Proofs.YtbdbpamefkgelaaGreatDoor
set_option maxRecDepth 100000
open Go.RowKit
set_option linter.unusedVariables false

set_option maxHeartbeats 2000000 in
theorem ones_own (v : Value) (l : List Bool) (w : World) (hv : IsBits w v l) (hl : l.length ≤ 1048576) (hT : TabAt w) :
    Calls Tryz.prog 92 #[v] w fun e w' => ∃ v, e = .returned v ∧ w'.ownsRow w.heap.size 3 1 v (onesTo (sq l) l.length).length (ints (onesTo (sq l) l.length)) ∧ Below w.heap.size w w' := by
  obtain ⟨i0, hi, hz0, hz1, hz2⟩ := info_parts info_int
  have HV := Lib.hid hv
  obtain ⟨ao, cap, rfl, hcells⟩ := hv.opened
  obtain ⟨L, hL⟩ : ∃ L, (l.length + 63) / 64 = L := ⟨_, rfl⟩
  rw [hL] at hcells HV ⊢
  have hL2 : L ≤ 16384 := by omega
  have HL := Lib.hid (show onesTo (sq l) (64 * L) = onesTo (sq l) l.length from onesTo_skip' (by omega) fun j h1 _ => sq_out h1)
  have hcnt := cnt_le (sq l) l.length
  have HC := Lib.hid hcells
  clear hcells hv hL
  go_enter Tryz.func92, Tryz.ntmps92
  go_wp2_with fail
  refine (count_calls _ l _ (HV.out.keep (keep_alloc _ _)) hl).mono ?_
  rintro e w1 ⟨rfl, hB⟩
  have hA1 : Hid (At2 w1 w.heap.size (.int .i64 l.length) (.slice ao L cap)) := Lib.hid ((At2.new _ _ _ _).below hB)
  have hB1 : Hid (Below w.heap.size w w1) := Lib.hid (((Below.refl w.heap.size w).alloc (Nat.le_refl _) (.cells #[.int .i64 l.length, .slice ao L cap] 82)).trans (hB.mono (by simp)))
  have hs1 : w.heap.size + 1 ≤ w1.heap.size := by have := hB.size; simpa using this
  clear hB
  go_wp2_with ((with_reducible refine wpList_make_own _ rfl _ _ 24 rfl (w.heap.size + 1) 3 i0 (.int .i64 0) 1 Tryz.underlying24 hi hz0 hz1 .i64 .i64 _ (cnt (sq l) l.length) rfl rfl rfl ?_ ?_ ?_ ?_))
  · rw [hz2]; omega
  · unfold maxLen; omega
  · exact hs1
  intro w2 hown hgrow
  have hB2 : Below w1.heap.size w1 w2 := (Below.refl _ _).grown hgrow (Nat.le_refl _) (fun k hk => by cases hk)
  have hA2 : Hid (At2 w2 w.heap.size (.int .i64 l.length) (.slice ao L cap)) := Lib.hid (hA1.out.below hB2)
  have HB2 := Lib.hid (hB1.out.trans (hB2.mono hB1.out.size))
  have HO2 : Hid (w2.ownsRow (w.heap.size + 1) 3 1 (.slice (some ⟨w1.heap.size, 0, none⟩) 0 (cnt (sq l) l.length)) (onesTo (sq l) (64 * 0)).length (ints (onesTo (sq l) (64 * 0)))) := Lib.hid hown
  clear hown hgrow hB2
  obtain ⟨yl, y0, y1, yf⟩ := hA2.out
  clear yf
  go_wp2
  go_loopw [3, 12] (fun v i wr => ∃ k : Nat, k ≤ L ∧ i = .int .i64 k ∧ wr.ownsRow (w.heap.size + 1) 3 1 v (onesTo (sq l) (64 * k)).length (ints (onesTo (sq l) (64 * k))) ∧ At2 wr w.heap.size (.int .i64 l.length) (.slice ao L cap) ∧ Below w.heap.size w wr) (fun _ i _ => L - (intOf i).toNat)
  case atStart => exact ⟨0, by omega, rfl, HO2.out, hA2.out, HB2.out⟩
  case round =>
    obtain ⟨k, hk, rfl, hown, hA, hB⟩ := hrel
    have HO := Lib.hid hown
    have HA := Lib.hid hA
    have HB := Lib.hid hB
    obtain ⟨zl, z0, z1, zf⟩ := hA
    by_cases hlt : k < L
    · obtain ⟨b, off, rfl, hc⟩ := HC.out k hlt
      have hcl := keep_below HB.out _ _ hc
      clear zf hown hB hc
      go_wp2
      go_loopg [3, 5] 64 (fun g v u wq => ∃ t x : Nat, t + g = 64 ∧ u = .int .u64 (x : Nat) ∧ Left (sq l) k t x ∧ wq.ownsRow (w.heap.size + 1) 3 1 v (onesTo (sq l) (64 * k + t)).length (ints (onesTo (sq l) (64 * k + t))) ∧ At2 wq w.heap.size (.int .i64 l.length) (.slice (some ⟨b, off, none⟩) L cap) ∧ Below w.heap.size w wq)
      case atStart => exact ⟨0, _, by omega, rfl, Left.start _ _, HO.out, HA.out, HB.out⟩
      case round =>
        obtain ⟨t, x, htg, rfl, hleft, hown, hA, hB⟩ := hrel
        have HO' := Lib.hid hown
        have HA' := Lib.hid hA
        have HB' := Lib.hid hB
        have hxl := hleft.1
        have hlen := onesTo_le (sq l) (64 * k + t)
        have hszq := hB.size
        have hszq2 := hA.1
        by_cases hx : x = 0
        · have hx' : ((x : Int) != 0) = false := by rw [hx]; rfl
          have HE := Lib.hid (show onesTo (sq l) (64 * (k + 1)) = onesTo (sq l) (64 * k + t) by subst hx; exact hleft.done (by omega))
          clear hx hleft hown hA hB
          go_wp2
          go_roundw
          case rel => exact ⟨k + 1, by omega, by go_num, by rw [HE.out]; exact HO'.out, HA'.out, HB'.out⟩
          case measure => simp [intOf]; omega
        · have hx' : ((x : Int) != 0) = true := by simp; omega
          have hx1 : 1 ≤ x := by omega
          obtain ⟨c, hc, htc, hc64, hone, hnext⟩ := hleft.next hx
          have HC' := Lib.hid hc
          have HX := Lib.hid hx
          have H1 := Lib.hid hone
          have HN := Lib.hid hnext
          have HAnd := Lib.hid (show bits BinOp.and IntKind.u64 (x : Int) ((x : Int) - 1) = ((x &&& (x - 1) : Nat) : Int) by
            have := u64_and_nat x (x - 1) hxl (by omega)
            rwa [show ((x - 1 : Nat) : Int) = (x : Int) - 1 by omega] at this)
          have HT' : Hid (TabAt wr) := Lib.hid (fun j hj => keep_below HB'.out _ _ (hT j hj))
          have htr := fun w h => trailing_calls x hxl hx w h
          rw [← hc] at htr
          have HTR := Lib.hid htr
          clear hx hc hone hnext hleft hown hA hB htr
          go_wp2_with (first | (go_at_call 73; refine (HTR.out _ ?_).mono ?_; exact HT'.out; rintro e w' ⟨rfl, rfl⟩) | (at_builtin; refine wpList_append_own _ rfl _ _ 24 rfl (w.heap.size + 1) 3 i0 (.int .i64 0) 1 8 Tryz.underlying24 hi hz0 hz1 hz2 rfl (by decide) _ _ _ rfl (HO'.out.alloc _) ⟨wr.heap.size, 0, none⟩ 1 1 [.int .i64 ((k : Int) * 64 + (c : Int))] rfl rfl ?c1 ?c2 ?c3 ?c4 ?c5 ?_))
          case c1 =>
            intro j u hj
            match j, hj with
            | 0, hj => simp at hj; subst hj; simp [Addr.add]
          case c2 => intro u hu; simp at hu; subst hu; rfl
          case c3 => unfold maxLen; omega
          case c4 => omega
          case c5 => simp; omega
          intro v' w3 hown' hgrow _
          have HO3 := Lib.hid hown'
          have HB3 := Lib.hid (grown_below (HB'.out.alloc hszq _) (HO'.out.alloc _) (by omega) (by simp; omega) hgrow)
          have HA3 : Hid (At2 w3 w.heap.size (.int .i64 l.length) (.slice (some ⟨b, off, none⟩) L cap)) := Lib.hid ((HA'.out.alloc _).grown hgrow (fun e => by have := (World.ownsRow.lt HO'.out _ e.symm).1; omega))
          clear hown' hgrow
          go_wp2
          rw [HAnd.out]
          go_roundg (64 - (c + 1))
          case rel =>
            refine ⟨c + 1, _, by omega, rfl, HN.out, ?_, HA3.out, HB3.out⟩
            have := HO3.out
            rw [H1.out]
            have e : ((k : Int) * 64 + (c : Int)) = ((64 * k + c : Nat) : Int) := by omega
            rw [e] at this
            simpa [ints] using this
          case measure => omega
    · have hkL : k = L := by omega
      have HE := Lib.hid hkL
      clear hkL hown hB zf
      go_wp2
      go_ret
      refine ⟨_, rfl, ?_, HB.out⟩
      have := own_lower HO.out (show w.heap.size ≤ w.heap.size + 1 by omega)
      rwa [HE.out, HL.out] at this
end Go.Proofs.YtbdbpamefkgelaaGreatDoor

/- Layer 17, walked: Bits. -/
namespace Go.Proofs.YtbdbpamefkgelaaGreatDoor
set_option maxRecDepth 100000
open Go.RowKit Fl
set_option linter.unusedVariables false

theorem step_append_any {P : Program} {ops : Array Oper} {o : Oper} {a : Act} {w : World} {K : Act → World → Prop} {Q : Exit → Act → World → Prop} {E : Prop}
    (hg : o.guard = none) (s x : Operand) (t : TypeId) (ho : o.op = .call { callee := .builtin .append, args := #[s, x], argTypes := #[t, t] })
    (base : Nat) (e : TypeId) (i : TypeInfo) (z : Value) (bytes : Nat) (ht : P.underlying t = some (.slice e)) (hi : P.info? e = some i) (hz : i.zero = some z) (hsize : i.size = 1) (hby : i.bytes = bytes) (hzs : z.cells.size = 1)
    (v : Value) (n : Nat) (xs : List Value) (hsv : a.eval s = v) (hown : w.ownsRow base e 1 v n xs) {ok : Nat → Prop} (ao : Option Addr) (m c : Nat) (news : List Value) (hx : a.eval x = .slice ao m c) (hs : Slx w ok (.slice ao m c) m news) (h1 : ∀ u ∈ news, u.oneCell' = true)
    (h63 : n + m ≤ maxLen) (hbytes : (n + m) * bytes ≤ 140737488355328) (hbase : base ≤ w.heap.size)
    (h : ∀ v' w', w'.ownsRow base e 1 v' (n + m) (xs ++ news) → w.grownBy w' v.ownBlock → K (a.put o.dst v') w') :
    if Region.wanted o (yielded ops a.tmps) = true then Oper.wp P o a w K Q else E := by
  have hw : Region.wanted o (yielded ops a.tmps) = true := by simp [Region.wanted, hg]
  rw [if_pos hw]
  obtain ⟨v', w', hr, h2, h3⟩ := run_append_any (P := P) t o.type e i z bytes ht hi hz hsize hby hzs base v n xs hown ao m c news hs h1 h63 hbytes hbase
  have hk := h v' w' h2 h3
  suffices hg : Oper.upon P o a K Q (Result.ok (Next.value v') w') by simpa [Oper.wp, execOp, ho, resolve, invoke, builtin, hsv, hx, hr] using hg
  exact hk
theorem slc_low9 {w : World} {a : Nat} {s : Value} {n : Nat} {xs : List Value} (h : Slc w (fun x => a + 1 ≤ x) s n xs) : Slc w (fun x => a ≤ x) s n xs := h.keep (Kept.refl _ _) (fun x _ h2 => Nat.le_trans (Nat.le_succ a) h2)
theorem sq_not {l : List Bool} {j : Nat} (h : j < l.length) : sq (l.map fun b => !b) j = !(sq l j) := by
  simp [sq, List.getElem?_map, List.getElem?_eq_getElem h]
theorem filt_eq {F G : Nat → Bool} {n : Nat} (h : ∀ j, j < n → F j = G j) : (List.range n).filter F = (List.range n).filter G := List.filter_congr fun j hj => h j (List.mem_range.1 hj)
theorem bs_false (l : List Bool) : zL (bsL l false) = onesTo (sq (l.map fun b => !b)) (l.map fun b => !b).length ++ onesTo (sq l) l.length := by
  rw [bsL_zL, List.length_map, onesTo_zL, onesTo_zL, onesTo_zL, onesTo_zL]
  congr 2
  · exact filt_eq fun j hj => by rw [sq_not hj]; cases sq l j <;> rfl
  · exact filt_eq fun j hj => by cases sq l j <;> rfl
theorem bs_true (l : List Bool) : zL (bsL l true) = onesTo (sq l) l.length ++ onesTo (sq (l.map fun b => !b)) (l.map fun b => !b).length := by
  rw [bsL_zL, List.length_map, onesTo_zL, onesTo_zL, onesTo_zL, onesTo_zL]
  congr 2
  · exact filt_eq fun j hj => by cases sq l j <;> rfl
  · exact filt_eq fun j hj => by rw [sq_not hj]; cases sq l j <;> rfl
set_option maxHeartbeats 8000000 in
theorem rxbits_calls (v : Value) (l : List Bool) (down : Bool) (w : World) (hv : IsBits w v l) (hm : l.length ≤ 1048576) (hT : TabAt w) :
    Calls Tryz.prog 70 #[v, .bool down] w fun e w' => ∃ v, e = .returned v ∧ Slc w' (fun b => w.heap.size ≤ b) v l.length (ints (zL (bsL l down))) ∧ Below w.heap.size w w' := by
  obtain ⟨i0, hi, hz0, hz1, hz2⟩ := info_parts info_int
  have HV0 := Lib.hid hv
  obtain ⟨ao, cap, rfl, _⟩ := hv.opened
  obtain ⟨M, hM⟩ : ∃ M, (l.length + 63) / 64 = M := ⟨_, rfl⟩
  obtain ⟨n, hn⟩ : ∃ n, l.length = n := ⟨_, rfl⟩
  have HN := Lib.hid hn
  have HLM := Lib.hid hm
  have HLN := Lib.hid (show (l.map fun b => !b).length ≤ 1048576 by rw [List.length_map]; exact hm)
  obtain ⟨T, hTT⟩ : ∃ T, onesTo (sq l) l.length = T := ⟨_, rfl⟩
  obtain ⟨F, hF⟩ : ∃ F, onesTo (sq (l.map fun b => !b)) (l.map fun b => !b).length = F := ⟨_, rfl⟩
  have HTT := Lib.hid hTT
  have HFF := Lib.hid hF
  have HE0 := Lib.hid (show zL (bsL l false) = F ++ T by rw [bs_false, hTT, hF])
  have HE1 := Lib.hid (show zL (bsL l true) = T ++ F by rw [bs_true, hTT, hF])
  have HEL := Lib.hid (show F.length + T.length = n by rw [← List.length_append, ← HE0.out, zL_len, bsL_len, hn])
  rw [hM] at HV0 ⊢
  rw [hn] at HV0 ⊢
  obtain ⟨W1, hW1⟩ : ∃ W1, W1 = w.alloc (.cells #[.int .i64 (n : Int), .slice ao M cap] 82) := ⟨_, rfl⟩
  have HB := Lib.hid (show Below w.heap.size w W1 by rw [hW1]; exact below_new _ _)
  have HP := Lib.hid (show At2 W1 w.heap.size (.int .i64 (n : Int)) (.slice ao M cap) by rw [hW1]; exact At2.new w _ _ _)
  have HV := Lib.hid (show IsBits W1 (.agg #[.int .i64 (n : Int), .slice ao M cap]) l from HV0.out.keep (keep_below HB.out))
  have HT := Lib.hid (show TabAt W1 from fun j hj => keep_below HB.out _ _ (hT j hj))
  have hfold := hW1.symm
  clear hv hW1 hT hM hn hTT hF hm HV0
  cases down
  · have cHP0 := HP.out.2.1
    have cHP1 := HP.out.2.2.1
    go_enter Tryz.func70, Tryz.ntmps70
    go_wp2_with fail
    clear hfold
    obtain ⟨W11, hWD⟩ : ∃ xw9, W1.drew = xw9 := ⟨_, rfl⟩
    have hB : Below W1.heap.size W1 W11 := by rw [← hWD]; exact Below.drewN' (Below.refl _ _) 1
    clear cHP0 cHP1
    replace HP := Lib.hid (HP.out.below hB)
    replace HB := Lib.hid (HB.out.trans (hB.mono HB.out.size))
    replace HV := Lib.hid (HV.out.keep (keep_below hB))
    replace HT := Lib.hid (fun j hj => keep_below hB _ _ (HT.out j hj))
    clear hB
    refine wp_region_held_drew (S := fun w' => w'.cell? ⟨w.heap.size, 0, none⟩ = some (.int .i64 (n : Int)) ∧ w'.cell? ⟨w.heap.size, 1, none⟩ = some (.slice ao M cap)) (by kernel_rfl) (by rw [hWD]; exact ⟨HP.out.2.1, HP.out.2.2.1⟩) (fun hHeld => ?_)
    rw [hWD] at hHeld ⊢
    clear hWD
    refine wpAnyH_take (i := 0) (v := ?_) rfl (by kernel_rfl) (by kernel_rfl) (by kernel_rfl) (fun _ _ _ h => h) (Or.inl ⟨by rfl, ?_⟩) (by assumption) ?_
    rotate_left
    · (intro w hSw; (try dsimp only at hSw); go_simp; try with_reducible rfl)
    simp only [Act.put, List.getElem_toArray, List.getElem_cons_zero, List.setIfInBounds_toArray, List.set_cons_zero, List.set_cons_succ]
    refine wpAnyH_take (i := 3) (v := ?_) rfl (by kernel_rfl) (by kernel_rfl) (by kernel_rfl) (fun _ _ _ h => h) (Or.inl ⟨by rfl, ?_⟩) (by assumption) ?_
    rotate_left
    · (intro w hSw; (try dsimp only at hSw); go_simp; try with_reducible rfl)
    simp only [Act.put, List.getElem_toArray, List.getElem_cons_succ, List.getElem_cons_zero, List.setIfInBounds_toArray, List.set_cons_zero, List.set_cons_succ]
    refine wpAnyH_ready (rs := [1]) (by kernel_rfl) (by simp) ?_
    refine AllReadyH.cons (o := _) rfl (fun K hK => ?_) ?_
    · clear hHeld
      go_simp
      refine (not_calls _ l _ HV.out HLM.out).mono ?_
      rintro e W12 ⟨vb, rfl, hvb, hB⟩
      replace HP := Lib.hid (HP.out.below hB)
      replace HB := Lib.hid (HB.out.trans (hB.mono HB.out.size))
      replace HV := Lib.hid (HV.out.keep (keep_below hB))
      replace HT := Lib.hid (fun j hj => keep_below hB _ _ (HT.out j hj))
      have HNB := Lib.hid hvb
      clear hvb
      clear hB
      refine hK.out _ _ ?_ (fun hHeld => ?_)
      · exact ⟨HP.out.2.1, HP.out.2.2.1⟩
      clear hK K
      refine wpAnyH_ready (rs := [2]) (by kernel_rfl) (by simp) ?_
      refine AllReadyH.cons (o := _) rfl (fun K hK => ?_) ?_
      · clear hHeld
        go_simp
        have hq9 := HP.out.1
        refine (ones_own _ (l.map fun b => !b) _ HNB.out HLN.out HT.out).mono ?_
        rintro e W13 ⟨vn, rfl, vnh, hB⟩
        replace HP := Lib.hid (HP.out.below hB)
        replace HB := Lib.hid (HB.out.trans (hB.mono HB.out.size))
        replace HV := Lib.hid (HV.out.keep (keep_below hB))
        replace HT := Lib.hid (fun j hj => keep_below hB _ _ (HT.out j hj))
        replace HNB := Lib.hid (HNB.out.keep (keep_below hB))
        rw [HFF.out] at vnh
        have HON := Lib.hid (own_lower vnh (show w.heap.size + 1 ≤ W12.heap.size by omega))
        obtain ⟨vno, vnc, rfl, _⟩ := (Slc.owned vnh).opened
        clear vnh hq9
        clear hB
        refine hK.out _ _ ?_ (fun hHeld => ?_)
        · exact ⟨HP.out.2.1, HP.out.2.2.1⟩
        clear hK K
        refine wpAnyH_ready (rs := [4]) (by kernel_rfl) (by simp) ?_
        refine AllReadyH.cons (o := _) rfl (fun K hK => ?_) ?_
        · clear hHeld
          go_simp
          have hq9 := HP.out.1
          refine (ones_own _ l _ HV.out HLM.out HT.out).mono ?_
          rintro e W14 ⟨vp, rfl, vph, hB⟩
          replace HP := Lib.hid (HP.out.below hB)
          replace HB := Lib.hid (HB.out.trans (hB.mono HB.out.size))
          replace HV := Lib.hid (HV.out.keep (keep_below hB))
          replace HT := Lib.hid (fun j hj => keep_below hB _ _ (HT.out j hj))
          replace HNB := Lib.hid (HNB.out.keep (keep_below hB))
          replace HON := Lib.hid (owns_below HON.out hB)
          rw [HTT.out] at vph
          have HOP := Lib.hid (own_lower vph (show w.heap.size + 1 ≤ W13.heap.size by omega))
          obtain ⟨vpo, vpc, rfl, _⟩ := (Slc.owned vph).opened
          clear vph hq9
          clear hB
          refine hK.out _ _ ?_ (fun hHeld => ?_)
          · exact ⟨HP.out.2.1, HP.out.2.2.1⟩
          clear hK K
          refine wpAnyH_ready (rs := [5]) (by kernel_rfl) (by simp) ?_
          refine AllReadyH.cons (o := _) rfl (fun K hK => ?_) ?_
          · clear hHeld
            have hq9 := HP.out.1
            have hql := HEL.out
            have hqm := HLM.out
            rw [HN.out] at hqm
            refine step_append_any rfl _ _ 24 rfl (w.heap.size + 1) 3 i0 (.int .i64 0) 8 Tryz.underlying24 hi hz0 hz1 hz2 rfl _ F.length (ints F) rfl HON.out vpo T.length vpc (ints T) rfl (Slc.owned HOP.out).1 (ints_one1 _) (by unfold maxLen; omega) (by omega) (by omega) ?_
            intro vr wr hownr hgrowr
            have HR := Lib.hid hownr
            replace HP := Lib.hid (HP.out.grown hgrowr (fun e => by have := (HON.out.lt _ e.symm).1; omega))
            replace HB := Lib.hid (grown_below HB.out HON.out (by omega) (by omega) hgrowr)
            clear hownr hgrowr hq9 hql hqm
            refine hK.out _ _ ?_ (fun hHeld => ?_)
            · exact ⟨HP.out.2.1, HP.out.2.2.1⟩
            clear hK K
            refine wpAnyH_take (i := 6) (v := ?_) rfl (by kernel_rfl) (by kernel_rfl) (by kernel_rfl) (fun _ _ _ h => h) (Or.inl ⟨by rfl, ?_⟩) (by assumption) ?_
            rotate_left
            · (intro w hSw; (try dsimp only at hSw); go_simp; try with_reducible rfl)
            simp only [Act.put, List.getElem_toArray, List.getElem_cons_succ, List.getElem_cons_zero, List.setIfInBounds_toArray, List.set_cons_zero, List.set_cons_succ]
            refine wpAnyH_done (by kernel_rfl) ?_ _
            clear hHeld
            go_wp2_with fail
            go_ret
            refine ⟨_, rfl, ?_, HB.out⟩
            have h9 := slc_low9 (Slc.owned HR.out)
            rw [HE0.out, ints_append2, ← HEL.out]
            exact h9
          exact AllReadyH.nil
        exact AllReadyH.nil
      exact AllReadyH.nil
    exact AllReadyH.nil
  · have cHP0 := HP.out.2.1
    have cHP1 := HP.out.2.2.1
    go_enter Tryz.func70, Tryz.ntmps70
    go_wp2_with fail
    clear hfold
    obtain ⟨W11, hWD⟩ : ∃ xw9, W1.drew = xw9 := ⟨_, rfl⟩
    have hB : Below W1.heap.size W1 W11 := by rw [← hWD]; exact Below.drewN' (Below.refl _ _) 1
    clear cHP0 cHP1
    replace HP := Lib.hid (HP.out.below hB)
    replace HB := Lib.hid (HB.out.trans (hB.mono HB.out.size))
    replace HV := Lib.hid (HV.out.keep (keep_below hB))
    replace HT := Lib.hid (fun j hj => keep_below hB _ _ (HT.out j hj))
    clear hB
    refine wp_region_held_drew (S := fun w' => w'.cell? ⟨w.heap.size, 0, none⟩ = some (.int .i64 (n : Int)) ∧ w'.cell? ⟨w.heap.size, 1, none⟩ = some (.slice ao M cap)) (by kernel_rfl) (by rw [hWD]; exact ⟨HP.out.2.1, HP.out.2.2.1⟩) (fun hHeld => ?_)
    rw [hWD] at hHeld ⊢
    clear hWD
    refine wpAnyH_take (i := 0) (v := ?_) rfl (by kernel_rfl) (by kernel_rfl) (by kernel_rfl) (fun _ _ _ h => h) (Or.inl ⟨by rfl, ?_⟩) (by assumption) ?_
    rotate_left
    · (intro w hSw; (try dsimp only at hSw); go_simp; try with_reducible rfl)
    simp only [Act.put, List.getElem_toArray, List.getElem_cons_zero, List.setIfInBounds_toArray, List.set_cons_zero, List.set_cons_succ]
    refine wpAnyH_take (i := 2) (v := ?_) rfl (by kernel_rfl) (by kernel_rfl) (by kernel_rfl) (fun _ _ _ h => h) (Or.inl ⟨by rfl, ?_⟩) (by assumption) ?_
    rotate_left
    · (intro w hSw; (try dsimp only at hSw); go_simp; try with_reducible rfl)
    simp only [Act.put, List.getElem_toArray, List.getElem_cons_succ, List.getElem_cons_zero, List.setIfInBounds_toArray, List.set_cons_zero, List.set_cons_succ]
    refine wpAnyH_ready (rs := [1]) (by kernel_rfl) (by simp) ?_
    refine AllReadyH.cons (o := _) rfl (fun K hK => ?_) ?_
    · clear hHeld
      go_simp
      have hq9 := HP.out.1
      refine (ones_own _ l _ HV.out HLM.out HT.out).mono ?_
      rintro e W12 ⟨vp, rfl, vph, hB⟩
      replace HP := Lib.hid (HP.out.below hB)
      replace HB := Lib.hid (HB.out.trans (hB.mono HB.out.size))
      replace HV := Lib.hid (HV.out.keep (keep_below hB))
      replace HT := Lib.hid (fun j hj => keep_below hB _ _ (HT.out j hj))
      rw [HTT.out] at vph
      have HOP := Lib.hid (own_lower vph (show w.heap.size + 1 ≤ W11.heap.size by omega))
      obtain ⟨vpo, vpc, rfl, _⟩ := (Slc.owned vph).opened
      clear vph hq9
      clear hB
      refine hK.out _ _ ?_ (fun hHeld => ?_)
      · exact ⟨HP.out.2.1, HP.out.2.2.1⟩
      clear hK K
      refine wpAnyH_ready (rs := [3]) (by kernel_rfl) (by simp) ?_
      refine AllReadyH.cons (o := _) rfl (fun K hK => ?_) ?_
      · clear hHeld
        go_simp
        refine (not_calls _ l _ HV.out HLM.out).mono ?_
        rintro e W13 ⟨vb, rfl, hvb, hB⟩
        replace HP := Lib.hid (HP.out.below hB)
        replace HB := Lib.hid (HB.out.trans (hB.mono HB.out.size))
        replace HV := Lib.hid (HV.out.keep (keep_below hB))
        replace HT := Lib.hid (fun j hj => keep_below hB _ _ (HT.out j hj))
        replace HOP := Lib.hid (owns_below HOP.out hB)
        have HNB := Lib.hid hvb
        clear hvb
        clear hB
        refine hK.out _ _ ?_ (fun hHeld => ?_)
        · exact ⟨HP.out.2.1, HP.out.2.2.1⟩
        clear hK K
        refine wpAnyH_ready (rs := [4]) (by kernel_rfl) (by simp) ?_
        refine AllReadyH.cons (o := _) rfl (fun K hK => ?_) ?_
        · clear hHeld
          go_simp
          have hq9 := HP.out.1
          refine (ones_own _ (l.map fun b => !b) _ HNB.out HLN.out HT.out).mono ?_
          rintro e W14 ⟨vn, rfl, vnh, hB⟩
          replace HP := Lib.hid (HP.out.below hB)
          replace HB := Lib.hid (HB.out.trans (hB.mono HB.out.size))
          replace HV := Lib.hid (HV.out.keep (keep_below hB))
          replace HT := Lib.hid (fun j hj => keep_below hB _ _ (HT.out j hj))
          replace HOP := Lib.hid (owns_below HOP.out hB)
          replace HNB := Lib.hid (HNB.out.keep (keep_below hB))
          rw [HFF.out] at vnh
          have HON := Lib.hid (own_lower vnh (show w.heap.size + 1 ≤ W13.heap.size by omega))
          obtain ⟨vno, vnc, rfl, _⟩ := (Slc.owned vnh).opened
          clear vnh hq9
          clear hB
          refine hK.out _ _ ?_ (fun hHeld => ?_)
          · exact ⟨HP.out.2.1, HP.out.2.2.1⟩
          clear hK K
          refine wpAnyH_ready (rs := [5]) (by kernel_rfl) (by simp) ?_
          refine AllReadyH.cons (o := _) rfl (fun K hK => ?_) ?_
          · clear hHeld
            have hq9 := HP.out.1
            have hql := HEL.out
            have hqm := HLM.out
            rw [HN.out] at hqm
            refine step_append_any rfl _ _ 24 rfl (w.heap.size + 1) 3 i0 (.int .i64 0) 8 Tryz.underlying24 hi hz0 hz1 hz2 rfl _ T.length (ints T) rfl HOP.out vno F.length vnc (ints F) rfl (Slc.owned HON.out).1 (ints_one1 _) (by unfold maxLen; omega) (by omega) (by omega) ?_
            intro vr wr hownr hgrowr
            have HR := Lib.hid hownr
            replace HP := Lib.hid (HP.out.grown hgrowr (fun e => by have := (HOP.out.lt _ e.symm).1; omega))
            replace HB := Lib.hid (grown_below HB.out HOP.out (by omega) (by omega) hgrowr)
            clear hownr hgrowr hq9 hql hqm
            refine hK.out _ _ ?_ (fun hHeld => ?_)
            · exact ⟨HP.out.2.1, HP.out.2.2.1⟩
            clear hK K
            refine wpAnyH_take (i := 6) (v := ?_) rfl (by kernel_rfl) (by kernel_rfl) (by kernel_rfl) (fun _ _ _ h => h) (Or.inl ⟨by rfl, ?_⟩) (by assumption) ?_
            rotate_left
            · (intro w hSw; (try dsimp only at hSw); go_simp; try with_reducible rfl)
            simp only [Act.put, List.getElem_toArray, List.getElem_cons_succ, List.getElem_cons_zero, List.setIfInBounds_toArray, List.set_cons_zero, List.set_cons_succ]
            refine wpAnyH_done (by kernel_rfl) ?_ _
            clear hHeld
            go_wp2_with fail
            go_ret
            refine ⟨_, rfl, ?_, HB.out⟩
            have h9 := slc_low9 (Slc.owned HR.out)
            rw [HE1.out, ints_append2, ← HEL.out]
            rw [Nat.add_comm]
            exact h9
          exact AllReadyH.nil
        exact AllReadyH.nil
      exact AllReadyH.nil
    exact AllReadyH.nil
end Go.Proofs.YtbdbpamefkgelaaGreatDoor

/- Layer 17, walked: the reference's Spread. -/
namespace Go.Proofs.YtbdbpamefkgelaaGreatDoor
set_option maxRecDepth 100000
open Go.RowKit Fl
set_option linter.unusedVariables false

theorem spN_lt (keys : List Nat) : ∀ k, spN keys k < 2 ^ k := by
  intro k
  apply Nat.lt_pow_two_of_testBit
  intro j hj
  rw [spN_bit, decide_eq_false (by omega), Bool.false_and]
end Go.Proofs.YtbdbpamefkgelaaGreatDoor

/- Layer 17, walked: Grade. -/
namespace Go.Proofs.YtbdbpamefkgelaaGreatDoor
set_option maxRecDepth 100000
open Go.RowKit Fl
set_option linter.unusedVariables false

/-- The first k places, and none behind. -/
def idT (n k : Nat) : List Nat := (List.range n).map fun j => if j < k then j else 0
theorem idT_len (n k : Nat) : (idT n k).length = n := by simp [idT]
theorem idT_zero (n : Nat) : idT n 0 = List.replicate n 0 := by
  unfold idT
  apply List.ext_getElem?
  intro i
  by_cases h : i < n <;> simp [h]
theorem idT_all (n : Nat) : idT n n = List.range n := by
  unfold idT
  conv => rhs; rw [← List.map_id (List.range n)]
  exact List.map_congr_left fun j hj => by rw [if_pos (List.mem_range.1 hj)]; rfl
theorem idT_set {n k : Nat} (h : k < n) : (idT n k).set k k = idT n (k + 1) := by
  unfold idT
  apply List.ext_getElem?
  intro i
  rw [List.getElem?_set]
  by_cases e : k = i
  · subst e; simp [h]
  · rw [if_neg e]
    by_cases hi : i < n
    · simp only [List.getElem?_map, List.getElem?_range hi, Option.map_some]
      congr 1
      by_cases h2 : i < k
      · rw [if_pos h2, if_pos (by omega)]
      · rw [if_neg h2, if_neg (by omega)]
    · rw [List.getElem?_eq_none (by simp; omega), List.getElem?_eq_none (by simp; omega)]
/-- What is left behind a pass. -/
def nxR (r s : Nat) : Nat := r &&& (18446744073709551615 - 2047 * 2 ^ s % 18446744073709551616)
theorem mask_bit (s j : Nat) : (2047 * 2 ^ s % 18446744073709551616).testBit j = decide (j < 64 ∧ s ≤ j ∧ j < s + 11) := by
  rw [show (18446744073709551616 : Nat) = 2 ^ 64 from rfl, Nat.testBit_mod_two_pow, Nat.mul_comm, Nat.testBit_two_pow_mul, show (2047 : Nat) = 2 ^ 11 - 1 from rfl, Nat.testBit_two_pow_sub_one]
  by_cases h1 : j < 64 <;> by_cases h2 : s ≤ j <;> by_cases h3 : j < s + 11 <;> simp [h1, h2, h3] <;> omega
theorem nxR_bit {r : Nat} (hr : r < 18446744073709551616) (s j : Nat) : (nxR r s).testBit j = (r.testBit j && !decide (s ≤ j ∧ j < s + 11)) := by
  unfold nxR
  rw [Nat.testBit_and]
  by_cases hj : j < 64
  · have hm : 2047 * 2 ^ s % 18446744073709551616 < 2 ^ 64 := Nat.mod_lt _ (by decide)
    have e : (18446744073709551615 - 2047 * 2 ^ s % 18446744073709551616).testBit j = !(2047 * 2 ^ s % 18446744073709551616).testBit j := by
      rw [show 18446744073709551615 - 2047 * 2 ^ s % 18446744073709551616 = 2 ^ 64 - (2047 * 2 ^ s % 18446744073709551616 + 1) by omega, Nat.testBit_two_pow_sub_succ hm, decide_eq_true hj, Bool.true_and]
    rw [e, mask_bit]
    by_cases h2 : s ≤ j ∧ j < s + 11
    · rw [decide_eq_true h2, decide_eq_true ⟨hj, h2⟩]
    · rw [decide_eq_false h2, decide_eq_false (fun h => h2 h.2)]
  · rw [Nat.testBit_lt_two_pow (Nat.lt_of_lt_of_le hr (Nat.pow_le_pow_right (n := 2) (i := 64) (by decide) (by omega))), Bool.false_and, Bool.false_and]
theorem nxR_lt {r s : Nat} (hb : r.testBit s = true) (hr : r < 18446744073709551616) : nxR r s < r := by
  have h1 : nxR r s ≤ r := Nat.and_le_left
  have h2 : nxR r s ≠ r := fun e => by
    have h3 := nxR_bit hr s s
    rw [e, hb, decide_eq_true (show s ≤ s ∧ s < s + 11 by omega)] at h3
    cases h3
  omega
/-- What Grade tells. -/
noncomputable def grL (A : VV) (down : Bool) : List Nat := if A.keyB = true then grN A.len (lesK (keyV A) 1 down) A.len else []
theorem grL_len {A : VV} (h : A.keyB = true) (down : Bool) : (grL A down).length = A.len := by unfold grL; rw [if_pos h, grN_len]
theorem grL_so {A : VV} {down : Bool} {a : List Nat} (h : A.keyB = true) (ha : IsSo A.len (lesK (keyV A) 1 down) a) : a = grL A down := by
  unfold grL; rw [if_pos h]
  exact (so_iff (lesK_tot _ _ _ _) (grN_gr (lesK_tot _ _ _ _))).1 ha
def GradeIs (A : VV) (down : Bool) (w : World) (e : Ending) (w' : World) : Prop := ∃ v, e = .returned (.tuple #[v, .bool A.keyB]) ∧ Slc w' (fun b => w.heap.size ≤ b) v (grL A down).length (ints (zL (grL A down))) ∧ (A.keyB = false → v = .slice none 0 0) ∧ Below w.heap.size w w'
set_option maxHeartbeats 8000000 in
theorem rxgrade_calls {ok : Nat → Prop} (u : Value) (A : VV) (down : Bool) (w : World) (h : IsV w ok u A) (hok : A.ok) (hn : A.nm) (ht : ∀ z ∈ A.text, -2147483648 ≤ z ∧ z ≤ 2147483647) (hT : TabAt w) :
    Calls Tryz.prog 35 #[.agg #[u], .bool down] w (GradeIs A down w) := by
  obtain ⟨i0, hi, hz0, hz1, hz2⟩ := info_parts info_int
  have hsu := h.store
  obtain ⟨W1, hW1⟩ : ∃ W1, W1 = w.alloc (.cells #[u] 36) := ⟨_, rfl⟩
  have HB := Lib.hid (show Below w.heap.size w W1 by rw [hW1]; exact below_new _ _)
  have HA := Lib.hid (show At1 W1 w.heap.size u by rw [hW1]; exact At1.new w _ _)
  have HU := Lib.hid (show IsV W1 ok u A from h.grow HB.out)
  have HT := Lib.hid (show TabAt W1 from fun j hj => keep_below HB.out _ _ (hT j hj))
  have HOK := Lib.hid hok
  have HNM := Lib.hid hn
  have HN := Lib.hid (whs_rng hok hn)
  have HR := Lib.hid ht
  obtain ⟨bb, hbb⟩ : ∃ bb, A.isBit = bb := ⟨_, rfl⟩
  have HBB := Lib.hid hbb
  have HPL := Lib.hid (show A.packed.length ≤ 1048576 by cases A <;> simp [VV.packed] <;> exact hok)
  obtain ⟨np, hnp⟩ : ∃ np, A.packed.length = np := ⟨_, rfl⟩
  have HNP := Lib.hid hnp
  obtain ⟨kb, hkb⟩ : ∃ kb, A.keyB = kb := ⟨_, rfl⟩
  have HKB := Lib.hid hkb
  have hfold := hW1.symm
  clear h hW1 hok hn ht hT hbb hnp hkb
  have cHA0 := HA.out.2.1
  go_enter Tryz.func35, Tryz.ntmps35
  go_wp2_with fail
  clear hfold
  refine (vpacked_calls _ A _ HU.out).mono ?_
  rintro e W11 ⟨vb, rfl, hvb, hB⟩
  clear cHA0
  replace HA := Lib.hid (HA.out.below hB)
  replace HB := Lib.hid (HB.out.trans (hB.mono HB.out.size))
  replace HU := Lib.hid (HU.out.grow hB)
  replace HT := Lib.hid (fun j hj => keep_below hB _ _ (HT.out j hj))
  rw [HBB.out]
  have HVB := Lib.hid hvb
  obtain ⟨pao, pcap, rfl, _⟩ := hvb.opened
  rw [HNP.out] at HVB ⊢
  obtain ⟨M, hM⟩ : ∃ M, (np + 63) / 64 = M := ⟨_, rfl⟩
  rw [hM] at HVB ⊢
  clear hvb hM
  clear hB
  obtain ⟨W12, hWn⟩ : ∃ xw9, W11.alloc (.cells #[.int .i64 (np : Int), .slice pao M pcap] 82) = xw9 := ⟨_, rfl⟩
  have hB : Below W11.heap.size W11 W12 := by rw [← hWn]; exact below_new _ _
  have hNB : At2 W12 W11.heap.size (.int .i64 (np : Int)) (.slice pao M pcap) := by rw [← hWn]; exact At2.new _ _ _ _
  replace HA := Lib.hid (HA.out.below hB)
  replace HB := Lib.hid (HB.out.trans (hB.mono HB.out.size))
  replace HU := Lib.hid (HU.out.grow hB)
  replace HT := Lib.hid (fun j hj => keep_below hB _ _ (HT.out j hj))
  replace HVB := Lib.hid (HVB.out.keep (keep_below hB))
  have HPV := Lib.hid hNB
  clear hNB hB
  have cHA0 := HA.out.2.1
  have cHPV0 := HPV.out.2.1
  have cHPV1 := HPV.out.2.2.1
  cases bb
  · go_wp2_with fail
    clear hWn
    have HSZ := Lib.hid HB.out.size
    refine (rxkeys_calls _ A _ HU.out HOK.out HN.out HR.out HT.out).mono ?_
    rintro e W13 ⟨v2, rfl, hv2, hno, hB⟩
    clear cHA0 cHPV0 cHPV1
    replace HA := Lib.hid (HA.out.below hB)
    replace HB := Lib.hid (HB.out.trans (hB.mono HB.out.size))
    replace HU := Lib.hid (HU.out.grow hB)
    replace HT := Lib.hid (fun j hj => keep_below hB _ _ (HT.out j hj))
    replace HVB := Lib.hid (HVB.out.keep (keep_below hB))
    replace HPV := Lib.hid (HPV.out.below hB)
    have HZ := Lib.hid (slc_lower hv2 HSZ.out)
    have HNO := Lib.hid hno
    rw [HKB.out] at HNO ⊢
    clear hv2 hno
    clear hB
    cases kb
    · obtain rfl := HNO.out rfl
      have cHA0 := HA.out.2.1
      have cHPV0 := HPV.out.2.1
      have cHPV1 := HPV.out.2.2.1
      go_wp2_with fail
      go_ret2
      exact ⟨_, by rw [HKB.out]; rfl, by unfold grL; rw [if_neg (by rw [HKB.out]; decide)]; exact Slc.nil _ _, fun _ => rfl, HB.out⟩
    · obtain ⟨ko, kc, rfl, _⟩ := HZ.out.opened
      obtain ⟨keys, hkeys⟩ : ∃ keys, keysV A = keys := ⟨_, rfl⟩
      have HKL := Lib.hid (show ∀ x ∈ keys, x < 18446744073709551616 by rw [← hkeys]; exact keysV_lt HOK.out HNM.out HR.out)
      have hkl : keys.length = A.len := by rw [← hkeys]; exact keysV_len HKB.out
      have HGS := Lib.hid (show ∀ (sh : Nat) (a : List Nat), PassIs keys down sh a → RestIs keys sh 0 → a = grL A down from fun sh a h1 h2 => grL_so HKB.out (by
        rw [← hkl]
        refine pass_end h1 h2 HKL.out fun i k hi hk => ?_
        rw [← hkeys]
        exact keysV_ord HOK.out HNM.out HKB.out HR.out (hkl ▸ hi) (hkl ▸ hk)))
      have HGL := Lib.hid (show (grL A down).length = keys.length by rw [hkl]; exact grL_len HKB.out down)
      have HKM := Lib.hid (show keys.length ≤ 1048576 by rw [hkl]; exact VV.ok_len HOK.out)
      rw [hkeys] at HZ ⊢
      clear hkeys hkl
      obtain ⟨n, hn⟩ : ∃ n, keys.length = n := ⟨_, rfl⟩
      have HNK := Lib.hid hn
      have hnm := HKM.out
      rw [hn] at hnm HZ HGL ⊢
      clear hn
      have hmk := run_mkI3 n (by omega) W13
      obtain ⟨W0, hW0⟩ : ∃ W0, W0 = W13.alloc (.cells (zerosV (.int .i64 0) n) 3) := ⟨_, rfl⟩
      obtain ⟨g, hg⟩ : ∃ g, W13.heap.size = g := ⟨_, rfl⟩
      have HO0 : Hid (W0.ownsRow w.heap.size 3 1 (.slice (some ⟨g, 0, none⟩) n n) n (ints (zL (idT n 0)))) := Lib.hid (by rw [hW0, idT_zero, zL_rep, ints_rep, ← hg]; exact own_make1 _ _ _ (by omega) _ _ HB.out.size)
      have HQ0 := Lib.hid (show Below W13.heap.size W13 W0 by rw [hW0]; exact below_new _ _)
      have HG := Lib.hid hg
      rw [hg] at hmk
      rw [← hW0] at hmk
      clear hW0 hg
      go_wp2
      clear hmk
      go_loopw [35] (fun iv wr => ∃ k : Nat, k ≤ n ∧ iv = .int .i64 k ∧ wr.ownsRow w.heap.size 3 1 (.slice (some ⟨g, 0, none⟩) n n) n (ints (zL (idT n k))) ∧ Below W13.heap.size W13 wr) (fun iv _ => n - (intOf iv).toNat)
      case atStart => exact ⟨0, by omega, rfl, HO0.out, HQ0.out⟩
      case round =>
        obtain ⟨k, hk, rfl, hown, hB⟩ := hrel
        have HO := Lib.hid hown
        have HQ := Lib.hid hB
        clear hown hB HO0 HQ0
        by_cases hlt : k < n
        · have hcw := owns_cell HO.out k (by rw [ints_len, zL_len, idT_len]; exact hlt)
          obtain ⟨y, hy⟩ := ints_zT (l := idT n k) (p := k) (by rw [ints_len, zL_len, idT_len]; exact hlt)
          rw [hy] at hcw
          have hfr := World.ownsRow.frozenAt HO.out k
          clear hy
          go_wp2
          go_roundw
          case rel =>
            refine ⟨k + 1, by omega, by go_num, ?_, HQ.out.setCell (show W13.heap.size ≤ g from Nat.le_of_eq HG.out) _⟩
            have := (World.ownsRow.stored HO.out k (.int .i64 (k : Int))).1
            rw [ints_set, zL_set, idT_set hlt] at this
            exact this
          case measure => simp [intOf]; omega
        · have hkn : k = n := by omega
          have HE := Lib.hid (show Slc wr (fun b => w.heap.size ≤ b) (.slice (some ⟨g, 0, none⟩) n n) n (ints (zL (List.range n))) by
            have := Slc.owned HO.out
            rw [hkn, idT_all] at this
            exact this)
          clear HO hkn
          have HZ2 := Lib.hid (HZ.out.below HQ.out)
          go_wp2_with fail
          refine (rxspread_calls _ keys _ (by rw [HNK.out]; exact HZ2.out) HKM.out HKL.out).mono ?_
          rintro e w9 ⟨rfl, rfl⟩
          go_wp2
          go_loopw [10, 12] (fun av rv wq => ∃ (sh r : Nat) (a : List Nat), rv = .int .u64 (r : Int) ∧ r < 18446744073709551616 ∧ RestIs keys sh r ∧ PassIs keys down sh a ∧ Slc wq (fun b => w.heap.size ≤ b) av n (ints (zL a)) ∧ Below W13.heap.size W13 wq) (fun _ rv _ => (intOf rv).toNat)
          case atStart => exact ⟨0, _, _, rfl, Nat.lt_of_lt_of_le (spN_lt keys 64) (by decide), rest_start keys, by have := pass_start keys down; rwa [HNK.out] at this, HE.out, HQ.out⟩
          case round =>
            obtain ⟨sh, r, a, rfl, hr, hrest, hpass, hsl, hBq⟩ := hrel
            clear HZ2 HQ HE
            have HR9 := Lib.hid hr
            have HRE := Lib.hid hrest
            have HPA := Lib.hid hpass
            have HSL := Lib.hid hsl
            have HBQ := Lib.hid hBq
            obtain ⟨ar, ac, rfl, _⟩ := hsl.opened
            have HALN := Lib.hid (show a.length = n by rw [hpass.1.length_eq, List.length_range, HNK.out])
            have HZ3 := Lib.hid (HZ.out.below HBQ.out)
            have HT3 := Lib.hid (show TabAt wr from fun j hj => keep_below HBQ.out _ _ (HT.out j hj))
            clear hrest hpass hsl hBq
            by_cases h0 : r = 0
            · subst h0
              have HE9 := Lib.hid (HGS.out sh a HPA.out HRE.out)
              go_wp2
              go_ret2
              refine ⟨_, by rw [HKB.out]; rfl, ?_, fun h => absurd (h.symm.trans HKB.out) (by decide), HB.out.trans (HBQ.out.mono HB.out.size)⟩
              rw [← HE9.out, HALN.out]
              exact HSL.out
            · obtain ⟨c1, c2, c3, c4⟩ := ctz_spec r h0 hr
              have hne : ((r : Int) != 0) = true := by simp; omega
              have htr := fun wx hx => trailing_calls r hr h0 wx hx
              obtain ⟨s, hs⟩ : ∃ s, Lib.ctz 64 r = s := ⟨_, rfl⟩
              rw [hs] at htr c1 c2 c3
              have HTR := Lib.hid htr
              have HC2 := Lib.hid c2
              have HLO := Lib.hid (show ∀ j, j < s → r.testBit j = false from c3)
              have HSS := Lib.hid (show sh ≤ s by
                by_cases h : sh ≤ s
                · exact h
                · have h9 := HRE.out s
                  rw [c2, decide_eq_false h, Bool.false_and] at h9
                  cases h9)
              have HS64 := Lib.hid c1
              have HM := Lib.hid (show ∀ x ∈ a, x < keys.length from fun x hx => List.mem_range.1 (HPA.out.1.mem_iff.1 hx))
              have c9 : ((2 : Int) ^ s) = ((2 ^ s : Nat) : Int) := by simp
              have e1 : IntKind.u64.wrap (2047 * (2 : Int) ^ s) = ((2047 * 2 ^ s % 18446744073709551616 : Nat) : Int) := by
                rw [c9, IntKind.wrap_u64]; omega
              have b1 : bits BinOp.andNot IntKind.u64 (r : Int) ((2047 * 2 ^ s % 18446744073709551616 : Nat) : Int) = ((nxR r s : Nat) : Int) := u64_andNot_nat r _ hr (Nat.mod_lt _ (by decide))
              obtain ⟨mk, hmk⟩ : ∃ mk, 2047 * 2 ^ s % 18446744073709551616 = mk := ⟨_, rfl⟩
              rw [hmk] at e1 b1
              clear h0 hs htr c2 c3 c4 hmk c9
              go_wp2_with fail
              refine (HTR.out _ HT3.out).mono ?_
              rintro e w9 ⟨rfl, rfl⟩
              go_wp2_with fail
              refine (rxpass_calls _ _ keys a s down _ (by rw [HNK.out]; exact HZ3.out) (by rw [HALN.out]; exact HSL.out) HS64.out HKM.out (by rw [HALN.out, ← HNK.out]; exact HKM.out) HKL.out HM.out).mono ?_
              rintro e w10 ⟨vp, rfl, hvp, hB⟩
              rw [HALN.out] at hvp
              have HVP := Lib.hid (slc_lower hvp (Nat.le_trans HB.out.size HBQ.out.size))
              have HB4 := Lib.hid (HBQ.out.trans (hB.mono HBQ.out.size))
              clear hvp hB
              go_wp2
              go_roundw
              case rel => exact ⟨s + 11, nxR r s, _, rfl, Nat.lt_trans (nxR_lt HC2.out HR9.out) HR9.out, rest_step HSS.out HRE.out HLO.out (nxR_bit HR9.out s), pass_step HPA.out HRE.out HSS.out HS64.out HLO.out, HVP.out, HB4.out⟩
              case measure => have := nxR_lt HC2.out HR9.out; simp [intOf]; omega
  · have HKT := Lib.hid (show A.keyB = true by have h := HBB.out; revert h; cases A <;> simp [VV.isBit, VV.keyB, VV.isWh])
    have HGS := Lib.hid (show bsL A.packed down = grL A down from grL_so HKT.out (by have h := HBB.out; have h2 := HOK.out; revert h h2; cases A <;> simp only [VV.isBit, VV.ok] <;> intro h h2 <;> first | exact bits_so h2 down | cases h))
    go_wp2_with fail
    clear hWn
    have HSZ := Lib.hid HB.out.size
    refine (rxbits_calls _ A.packed down _ HVB.out HPL.out HT.out).mono ?_
    rintro e W13 ⟨v2, rfl, hv2, hB⟩
    clear cHA0 cHPV0 cHPV1
    replace HA := Lib.hid (HA.out.below hB)
    replace HB := Lib.hid (HB.out.trans (hB.mono HB.out.size))
    replace HU := Lib.hid (HU.out.grow hB)
    replace HT := Lib.hid (fun j hj => keep_below hB _ _ (HT.out j hj))
    replace HVB := Lib.hid (HVB.out.keep (keep_below hB))
    replace HPV := Lib.hid (HPV.out.below hB)
    have HZ := Lib.hid (slc_lower hv2 HSZ.out)
    clear hv2
    clear hB
    have cHA0 := HA.out.2.1
    have cHPV0 := HPV.out.2.1
    have cHPV1 := HPV.out.2.2.1
    go_wp2_with fail
    go_ret2
    refine ⟨v2, by rw [HKT.out]; rfl, ?_, fun h => absurd (h.symm.trans HKT.out) (by decide), HB.out⟩
    have := HZ.out
    rw [← HGS.out, bsL_len]
    exact this
end Go.Proofs.YtbdbpamefkgelaaGreatDoor

/- An argument that is a plain array, opened: its characters are of their type. -/
namespace Go.Proofs.YtbdbpamefkgelaaGreatDoor
open Go.RowKit Go.ChangeShapes Go.WideShapes
set_option linter.unusedVariables false
set_option maxRecDepth 100000

/-- Its characters are of their type. -/
def chO (p : PA) : Prop := ∀ x ∈ p.l, -2147483648 ≤ x.2.2.1 ∧ x.2.2.1 ≤ 2147483647
theorem wf_i32 {z : Int} (h : (Lit.int .i32 z).wf = true) : -2147483648 ≤ z ∧ z ≤ 2147483647 := by
  exact bounds_i32 h
section
variable {H : Type} {enc : TypeId × Value → H} {w : World} {base : Nat} {spare : Nat → Bool} {held : Bool}
theorem cint_ofw {t : TypeId} {k : IntKind} {fuel : Nat} {cs : List Value} {P : Program} {y : DataW H × List MemPlace} (ht : P.underlying t = some (.int k)) (h : DataW.trod enc P w base spare held fuel t cs = some y) : ∃ z, cs = [.int k z] ∧ (Lit.int k z).wf = true := by
  obtain ⟨u, rfl, z, rfl, hz⟩ := elem_int ht _ _ _ h
  exact ⟨z, rfl, hz⟩
theorem plain_ofc (fuel : Nat) : ∀ (cs : List Value) (y : DataW H × List MemPlace), DataW.trod enc Tryz.prog w base spare held fuel 32 cs = some y →
    ∃ a b c p d, cs = [a, b, c] ∧ IsP w (fun _ => True) (.agg #[a, b, c]) p ∧ lo d p ∧ chO p := by
  induction fuel using Nat.strongRecOn with
  | ind fuel ih =>
    intro cs y h
    obtain ⟨f0, f1, f2, hu, t0, t1, t2, o0, o1, o2⟩ := und_plain
    obtain ⟨xs, n, rfl, _, hl, hxl, hf⟩ := DataW.trod_struct hu h
    rw [co_plain] at hl
    match cs, hl with
    | [a, b, c], _ =>
      have g0 := hf 0 f0 rfl
      have g1 := hf 1 f1 rfl
      have g2 := hf 2 f2 rfl
      rw [t0, o0, co_slInt] at g0
      rw [t1, o1, co_slItem] at g1
      rw [t2, o2, co_int] at g2
      simp only [List.drop, List.take] at g0 g1 g2
      match xs, hxl with
      | [y0, y1, y2], _ =>
        simp only [List.getElem?_cons_zero, List.getElem?_cons_succ] at g0 g1 g2
        obtain ⟨v, s, e0, hs⟩ := ints_of Tryz.underlying24 co_int Tryz.underlying3 g0
        obtain rfl : a = v := by simpa using e0
        obtain ⟨z, e2⟩ := cint_of Tryz.underlying3 g2
        cases e2
        obtain ⟨ao, len, cap, n1, hn1, e1, hl1, hl2, hitem⟩ := cells_slice Tryz.underlying30 co_item (by omega) g1
        cases e1
        -- each item
        have one : ∀ i, i < len → ∃ x : PI × (Value × Nat), (∃ b off, ao = some ⟨b, off, none⟩ ∧ w.cell? ⟨b, off + i * 4, none⟩ = some (.int .i64 x.1.1) ∧ w.cell? ⟨b, off + i * 4 + 1, none⟩ = some (.float .f64 x.1.2.1) ∧
            w.cell? ⟨b, off + i * 4 + 2, none⟩ = some (.int .i32 x.1.2.2.1) ∧ w.cell? ⟨b, off + i * 4 + 3, none⟩ = some x.2.1) ∧ IsB w (fun _ => True) x.2.1 x.1.2.2.2 ∧ x.1.2.1 < 18446744073709551616 ∧ (∀ q ∈ x.1.2.2.2, lo x.2.2 q) ∧ -2147483648 ≤ x.1.2.2.1 ∧ x.1.2.2.1 ≤ 2147483647 := by
          intro i hi
          obtain ⟨b, off, cs', y', hao, hcl, hcells, htr⟩ := hitem i hi
          obtain ⟨k0, k1, k2, k3, hu', u0, u1, u2, u3, p0, p1, p2, p3⟩ := und_item
          obtain ⟨xs', n', rfl, _, _, hxl', hf'⟩ := DataW.trod_struct hu' htr
          match cs', hcl with
          | [c0, c1, c2, c3], _ =>
            have q0 := hf' 0 k0 rfl
            have q1 := hf' 1 k1 rfl
            have q2 := hf' 2 k2 rfl
            have q3 := hf' 3 k3 rfl
            rw [u0, p0, co_int] at q0
            rw [u1, p1, co_f64] at q1
            rw [u2, p2, co_i32] at q2
            rw [u3, p3, co_slPlain] at q3
            simp only [List.drop, List.take] at q0 q1 q2 q3
            match xs', hxl' with
            | [z0, z1, z2, z3], _ =>
              simp only [List.getElem?_cons_zero, List.getElem?_cons_succ] at q0 q1 q2 q3
              obtain ⟨kd, e0⟩ := cint_of Tryz.underlying3 q0
              cases e0
              obtain ⟨nm, e1, hnm⟩ := cfloat_of Tryz.underlying57 q1
              cases e1
              obtain ⟨ch, e2, hch⟩ := cint_ofw Tryz.underlying21 q2
              cases e2
              obtain ⟨bo, blen, bcap, n3, hn3, e3, hb1, hb2, hbox⟩ := cells_slice Tryz.underlying61 co_plain (by omega) q3
              cases e3
              have each : ∀ k, k < blen → ∃ x : PA × (Value × Value × Value) × Nat, (∃ b off, bo = some ⟨b, off, none⟩ ∧ w.cell? ⟨b, off + k * 3, none⟩ = some x.2.1.1 ∧ w.cell? ⟨b, off + k * 3 + 1, none⟩ = some x.2.1.2.1 ∧ w.cell? ⟨b, off + k * 3 + 2, none⟩ = some x.2.1.2.2) ∧
                  IsP w (fun _ => True) (.agg #[x.2.1.1, x.2.1.2.1, x.2.1.2.2]) x.1 ∧ lo x.2.2 x.1 := by
                intro k hk
                obtain ⟨b', off', cs2, y2, hbo, hcl2, hcells2, htr2⟩ := hbox k hk
                obtain ⟨a', b2, c', p, d, rfl, hp, hd, _⟩ := ih n3 (by omega) cs2 y2 htr2
                exact ⟨(p, (a', b2, c'), d), ⟨b', off', hbo, by simpa using hcells2 0 (by omega), by simpa using hcells2 1 (by omega), by simpa using hcells2 2 (by omega)⟩, hp, hd⟩
              obtain ⟨L, hL, hq⟩ := listAll blen _ each
              obtain ⟨D, hD⟩ := lo_all (n := blen) (fun k d => ∀ x, L[k]? = some x → lo d x.1) (fun i a b hab h x hx => lo_mono (h x hx) hab) (fun k hk => ⟨((L[k]?).map (fun x => x.2.2)).getD 0, fun x hx => by rw [hx]; exact (hq k x hx).2.2⟩)
              refine ⟨((kd, nm, ch, L.map (·.1)), (.slice bo blen bcap, D)), ⟨b, off, hao, by simpa using hcells 0 (by omega), by simpa using hcells 1 (by omega), by simpa using hcells 2 (by omega), by simpa using hcells 3 (by omega)⟩, ?_, lt_of_wf hnm, ?_, wf_i32 hch⟩
              · refine ⟨bo, bcap, fun k => ((L[k]?).map (fun x => x.2.1.1)).getD undef, fun k => ((L[k]?).map (fun x => x.2.1.2.1)).getD undef, fun k => ((L[k]?).map (fun x => x.2.1.2.2)).getD undef, by simp [hL], by simpa [hL] using hb1, hb2, fun k hk => ?_, fun k p hp => ?_⟩
                · have hk' : k < L.length := by simpa using hk
                  obtain ⟨⟨b', off', e, c0, c1, c2⟩, _⟩ := hq k _ (List.getElem?_eq_getElem hk')
                  exact ⟨b', off', e, trivial, by simp only [List.getElem?_eq_getElem hk']; exact c0, by simp only [List.getElem?_eq_getElem hk']; exact c1, by simp only [List.getElem?_eq_getElem hk']; exact c2⟩
                · simp only [List.getElem?_map, Option.map_eq_some_iff] at hp
                  obtain ⟨x, hx, rfl⟩ := hp
                  simp only [hx]
                  exact (hq k x hx).2.1
              · intro q hqm
                obtain ⟨x, hx, rfl⟩ := List.mem_map.1 hqm
                obtain ⟨k, hk⟩ := List.mem_iff_getElem?.1 hx
                exact hD k (by rw [← hL]; exact (List.getElem?_eq_some_iff.1 hk).1) x hk
        obtain ⟨L, hL, hq⟩ := listAll len _ one
        obtain ⟨D, hD⟩ := lo_all (n := len) (fun k d => ∀ x, L[k]? = some x → ∀ q ∈ x.1.2.2.2, lo d q) (fun i a b hab h x hx q hq => lo_mono (h x hx q hq) hab) (fun k hk => ⟨((L[k]?).map (fun x => x.2.2)).getD 0, fun x hx => by rw [hx]; exact (hq k x hx).2.2.2.1⟩)
        refine ⟨_, _, _, .mk s (L.map (·.1)) z, D + 1, rfl, ?_, ?_, ?_⟩
        · have : IsP w (fun _ => True) (.agg #[a, .slice ao (L.map (·.1)).length cap, .int .i64 z]) (.mk s (L.map (·.1)) z) := by
            refine IsP.of hs ⟨ao, cap, fun k => ((L[k]?).map (fun x => x.2.1)).getD undef, rfl, by simpa [hL] using hl1, hl2, fun i x hx => ?_, fun i x hx => ?_⟩
            · simp only [List.getElem?_map, Option.map_eq_some_iff] at hx
              obtain ⟨x, hx, rfl⟩ := hx
              obtain ⟨⟨b', off', e, c0, c1, c2, c3⟩, _⟩ := hq i x hx
              exact ⟨b', off', e, trivial, c0, c1, c2, by simp only [hx]; exact c3⟩
            · simp only [List.getElem?_map, Option.map_eq_some_iff] at hx
              obtain ⟨x, hx, rfl⟩ := hx
              simp only [hx]
              exact (hq i x hx).2.1
          simpa [hL] using this
        · intro x hx
          obtain ⟨y, hy, rfl⟩ := List.mem_map.1 (show _ ∈ L.map (·.1) from hx)
          obtain ⟨k, hk⟩ := List.mem_iff_getElem?.1 hy
          exact ⟨(hq k y hk).2.2.1, hD k (by rw [← hL]; exact (List.getElem?_eq_some_iff.1 hk).1) y hk⟩
        · intro x hx
          obtain ⟨y, hy, rfl⟩ := List.mem_map.1 (show _ ∈ L.map (·.1) from hx)
          obtain ⟨k, hk⟩ := List.mem_iff_getElem?.1 hy
          exact (hq k y hk).2.2.2.2
end
theorem open_plainc {H : Type} {enc : TypeId × Value → H} {w : World} {base : Nat} {spare : Nat → Bool} {held : Bool} {r : Reach} {b0 : Nat} {v : Value} {d : DataW H} {p : List MemPlace}
    (hv : Value.okWide Tryz.prog w r b0 32 v) (h : DataW.Trod enc Tryz.prog w base spare held 32 v d p) : ∃ P n, IsP w (fun _ => True) v P ∧ lo n P ∧ chO P := by
  obtain ⟨f0, f1, f2, hu, _⟩ := und_plain
  obtain ⟨cs, rfl, hsz⟩ := okWide_struct hu hv
  obtain ⟨fuel, hf⟩ := h
  obtain ⟨a, b, c, P, n, e, hp, hn, hc⟩ := plain_ofc fuel _ _ hf
  obtain ⟨l⟩ := cs
  have : l = [a, b, c] := e
  subst this
  exact ⟨P, n, hp, hn, hc⟩
end Go.Proofs.YtbdbpamefkgelaaGreatDoor

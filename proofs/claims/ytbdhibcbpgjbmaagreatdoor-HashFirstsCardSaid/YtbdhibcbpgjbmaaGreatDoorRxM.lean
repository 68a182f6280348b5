/- Layer 17, plain: places put in order by a digit of their keys; many passes are one order. -/
import Derived.Test.YtbdhibcbpgjbmaaGreatDoorOrR
namespace Go.Proofs.YtbdhibcbpgjbmaaGreatDoor
set_option maxRecDepth 100000
set_option linter.unusedVariables false

/-- The digit as it counts: downwards the greatest comes first. -/
def dgD (down : Bool) (d : Nat) : Nat := if down then 2047 - d else d
theorem dgD_lt {down : Bool} {d : Nat} (h : d < 2048) : dgD down d < 2048 := by unfold dgD; split <;> omega
theorem dgD_le {down : Bool} {d e : Nat} (hd : d < 2048) (he : e < 2048) : dgD down e ≤ dgD down d ↔ (if down then d ≤ e else e ≤ d) := by
 unfold dgD; cases down <;> simp <;> omega
/-- Those with the digits from a on, m of them, digit by digit. -/
def segL {α : Type} (dg : α → Nat) (l : List α) (a m : Nat) : List α := (List.range m).flatMap fun c => l.filter fun i => dg i == a + c
/-- All of them. -/
def passL {α : Type} (dg : α → Nat) (l : List α) : List α := segL dg l 0 2048
theorem fm_congr {α β : Type} {l : List α} {f g : α → List β} (h : ∀ x ∈ l, f x = g x) : l.flatMap f = l.flatMap g := by
 rw [List.flatMap_def, List.flatMap_def, List.map_congr_left h]
theorem segL_zero {α : Type} (dg : α → Nat) (l : List α) (a : Nat) : segL dg l a 0 = [] := rfl
theorem segL_succ {α : Type} (dg : α → Nat) (l : List α) (a m : Nat) : segL dg l a (m + 1) = segL dg l a m ++ l.filter fun i => dg i == a + m := by
 unfold segL; rw [List.range_succ, List.flatMap_append]; simp
theorem segL_add {α : Type} (dg : α → Nat) (l : List α) (a m k : Nat) : segL dg l a (m + k) = segL dg l a m ++ segL dg l (a + m) k := by
 induction k with
 | zero => simp [segL_zero]
 | succ k ih => rw [← Nat.add_assoc, segL_succ, ih, segL_succ, List.append_assoc, Nat.add_assoc]
theorem mem_segL {α : Type} {dg : α → Nat} {l : List α} {a m : Nat} {x : α} : x ∈ segL dg l a m ↔ x ∈ l ∧ a ≤ dg x ∧ dg x < a + m := by
 unfold segL
 simp only [List.mem_flatMap, List.mem_range, List.mem_filter, beq_iff_eq]
 constructor
 ·rintro ⟨c, h1, h2, h3⟩; exact ⟨h2, by omega, by omega⟩
 ·rintro ⟨h1, h2, h3⟩; exact ⟨dg x - a, by omega, h1, by omega⟩
theorem mem_passL {α : Type} {dg : α → Nat} {l : List α} (h : ∀ x ∈ l, dg x < 2048) {x : α} : x ∈ passL dg l ↔ x ∈ l := by
 unfold passL; rw [mem_segL]
 exact ⟨fun h1 => h1.1, fun h1 => ⟨h1, Nat.zero_le _, by have := h x h1; omega⟩⟩
theorem segL_out {α : Type} {dg : α → Nat} {l : List α} {x : α} {a m : Nat} (h : dg x < a ∨ a + m ≤ dg x) : segL dg (l ++ [x]) a m = segL dg l a m := by
 unfold segL
 refine fm_congr fun c hc => ?_
 have := List.mem_range.1 hc
 rw [List.filter_append, List.filter_cons_of_neg (by simp; omega)]
 simp
/-- One more: behind all whose digit is not above its own. -/
theorem passL_snoc {α : Type} {dg : α → Nat} {l : List α} {x : α} (hx : dg x < 2048) : passL dg (l ++ [x]) = segL dg l 0 (dg x + 1) ++ x :: segL dg l (dg x + 1) (2047 - dg x) := by
 unfold passL
 have e : 2048 = (dg x + 1) + (2047 - dg x) := by omega
 conv => lhs; rw [e]
 rw [segL_add, Nat.zero_add, segL_out (a := dg x + 1) (Or.inl (by omega)), segL_succ, segL_out (a := 0) (Or.inr (by omega)), segL_succ, Nat.zero_add, List.filter_append, List.filter_cons_of_pos (by simp)]
 simp
theorem passL_split {α : Type} (dg : α → Nat) (l : List α) {d : Nat} (hd : d < 2048) : passL dg l = segL dg l 0 (d + 1) ++ segL dg l (d + 1) (2047 - d) := by
 unfold passL
 have e : 2048 = (d + 1) + (2047 - d) := by omega
 conv => lhs; rw [e]
 rw [segL_add, Nat.zero_add]
theorem passL_nil {α : Type} (dg : α → Nat) : passL dg ([] : List α) = [] := by
 unfold passL segL; simp
theorem passL_take {α : Type} {dg : α → Nat} {l : List α} (h : ∀ x ∈ l, dg x < 2048) : ∀ k, k ≤ l.length → (passL dg (l.take k)).Perm (l.take k) := by
 intro k
 induction k with
 | zero => intro _; rw [List.take_zero, passL_nil]
 | succ k ih =>
  intro hk
  have hx := h l[k] (List.getElem_mem _)
  rw [List.take_succ_eq_append_getElem hk, passL_snoc hx]
  refine List.perm_middle.trans ?_
  rw [← passL_split dg (l.take k) hx]
  exact ((ih (by omega)).cons _).trans (List.perm_append_singleton _ _).symm
theorem passL_perm {α : Type} {dg : α → Nat} {l : List α} (h : ∀ x ∈ l, dg x < 2048) : (passL dg l).Perm l := by
 have := passL_take h l.length (Nat.le_refl _)
 rwa [List.take_length] at this
/-- Put in order by a digit: by it first, then as they stood. -/
theorem segL_pair {α : Type} {dg : α → Nat} {l : List α} {S : α → α → Prop} (h : l.Pairwise S) (a : Nat) : ∀ m, (segL dg l a m).Pairwise (fun x y => dg x < dg y ∨ dg x = dg y ∧ S x y) := by
 intro m
 induction m with
 | zero => rw [segL_zero]; exact List.Pairwise.nil
 | succ m ih =>
  rw [segL_succ, List.pairwise_append]
  refine ⟨ih, ?_, ?_⟩
  ·refine List.Pairwise.imp_of_mem (fun {x y} hx hy hs => ?_) (h.filter _)
   have h1 := (List.mem_filter.1 hx).2
   have h2 := (List.mem_filter.1 hy).2
   rw [beq_iff_eq] at h1 h2
   exact Or.inr ⟨h1.trans h2.symm, hs⟩
  ·intro x hx y hy
   have h1 := (mem_segL.1 hx).2.2
   have h2 := (List.mem_filter.1 hy).2
   rw [beq_iff_eq] at h2
   exact Or.inl (by omega)
theorem passL_pair {α : Type} {dg : α → Nat} {l : List α} {S : α → α → Prop} (h : l.Pairwise S) : (passL dg l).Pairwise (fun x y => dg x < dg y ∨ dg x = dg y ∧ S x y) := segL_pair h 0 2048
/-- Where all digits are the same, nothing moves. -/
theorem passL_same {α : Type} {dg : α → Nat} {l : List α} {d : Nat} (hd : d < 2048) (h : ∀ x ∈ l, dg x = d) : passL dg l = l := by
 have e : ∀ a m, (d < a ∨ a + m ≤ d) → segL dg l a m = [] := fun a m ho => by
  rw [List.eq_nil_iff_forall_not_mem]
  intro x hx
  have h1 := mem_segL.1 hx
  have := h x h1.1
  omega
 rw [passL_split dg l hd, e (d + 1) _ (Or.inl (by omega)), List.append_nil, segL_succ, e 0 d (Or.inr (by omega)), List.nil_append, Nat.zero_add]
 exact List.filter_eq_self.2 (fun x hx => by rw [beq_iff_eq]; exact h x hx)
/-- A list of numbers below n, none missing, in order by keys, then by themselves: it is the one list. -/
theorem pair_so {n : Nat} {lt : Nat → Nat → Bool} {a : List Nat} (hp : a.Perm (List.range n)) (h : a.Pairwise (fun x y => lt x y = true)) : IsSo n lt a := by
 have hl : a.length = n := by rw [hp.length_eq, List.length_range]
 refine ⟨hl, fun x hx => List.mem_range.1 (hp.mem_iff.1 hx), hp.nodup_iff.2 List.nodup_range, fun r hr => ?_⟩
 have := List.pairwise_iff_getElem.1 h r (r + 1) (by omega) (by omega) (by omega)
 simpa [List.getD_eq_getElem?_getD, List.getElem?_eq_getElem (show r < a.length by omega), List.getElem?_eq_getElem (show r + 1 < a.length by omega)] using this
/-- The digits of a key, eleven bits each. -/
def digN (key sh : Nat) : Nat := key / 2 ^ sh % 2048
theorem digN_lt (key sh : Nat) : digN key sh < 2048 := Nat.mod_lt _ (by decide)
/-- What is left of a key below a bit, and the digit on top of it. -/
theorem mod_dig (key sh : Nat) : key % 2 ^ (sh + 11) = digN key sh * 2 ^ sh + key % 2 ^ sh := by
 unfold digN
 rw [Nat.pow_add, show (2 : Nat) ^ 11 = 2048 from rfl, Nat.mod_mul, Nat.mul_comm, Nat.add_comm]
theorem mod_lt_iff {a b sh : Nat} : a % 2 ^ (sh + 11) < b % 2 ^ (sh + 11) ↔ digN a sh < digN b sh ∨ digN a sh = digN b sh ∧ a % 2 ^ sh < b % 2 ^ sh := by
 rw [mod_dig, mod_dig]
 have h1 := Nat.mod_lt a (Nat.two_pow_pos sh)
 have h2 := Nat.mod_lt b (Nat.two_pow_pos sh)
 generalize digN a sh = p at *
 generalize digN b sh = q at *
 generalize 2 ^ sh = m at *
 generalize a % m = r at *
 generalize b % m = s at *
 rcases Nat.lt_trichotomy p q with h | h | h
 ·have : (p + 1) * m ≤ q * m := Nat.mul_le_mul_right _ h
  rw [Nat.add_mul, Nat.one_mul] at this
  constructor
  ·intro _; exact Or.inl h
  ·intro _; omega
 ·subst h; omega
 ·have : (q + 1) * m ≤ p * m := Nat.mul_le_mul_right _ h
  rw [Nat.add_mul, Nat.one_mul] at this
  constructor
  ·intro _; omega
  ·rintro (h3 | ⟨h3, _⟩) <;> omega
theorem mod_eq_iff {a b sh : Nat} : a % 2 ^ (sh + 11) = b % 2 ^ (sh + 11) ↔ digN a sh = digN b sh ∧ a % 2 ^ sh = b % 2 ^ sh := by
 have h1 := @mod_lt_iff a b sh
 have h2 := @mod_lt_iff b a sh
 constructor
 ·intro e
  constructor <;> omega
 ·rintro ⟨e1, e2⟩
  rw [mod_dig, mod_dig, e1, e2]
/-- Behind the ones that are not above, all are above. -/
theorem pass_above {α : Type} {dg : α → Nat} {l : List α} {d n : Nat} {x : α} (hd : d < 2048) (hn : (segL dg l 0 (d + 1)).length ≤ n) (hx : (passL dg l)[n]? = some x) : d < dg x := by
 rw [passL_split dg l hd, List.getElem?_append_right hn] at hx
 have := (mem_segL.1 (List.mem_of_getElem? hx)).2.1
 omega
theorem pass_below {α : Type} {dg : α → Nat} {l : List α} {d n : Nat} {x : α} (hd : d < 2048) (hn : n < (segL dg l 0 (d + 1)).length) (hx : (passL dg l)[n]? = some x) : dg x ≤ d := by
 rw [passL_split dg l hd, List.getElem?_append_left hn] at hx
 have := (mem_segL.1 (List.mem_of_getElem? hx)).2.2
 omega
theorem pass_ins {α : Type} {dg : α → Nat} {l : List α} {x : α} (hx : dg x < 2048) : passL dg (l ++ [x]) = (passL dg l).take (segL dg l 0 (dg x + 1)).length ++ x :: (passL dg l).drop (segL dg l 0 (dg x + 1)).length := by
 rw [passL_snoc hx, passL_split dg l hx, List.take_left', List.drop_left'] <;> rfl
theorem seg_le {α : Type} (dg : α → Nat) (l : List α) {d : Nat} (hd : d < 2048) : (segL dg l 0 (d + 1)).length ≤ (passL dg l).length := by
 rw [passL_split dg l hd, List.length_append]; omega
end Go.Proofs.YtbdhibcbpgjbmaaGreatDoor

/- Layer 16, plain: a strict total order of the first n numbers: how many are ahead of each, the one list in order. -/
import Derived.Test.YtbdhibcbpgjbmaaGreatDoorPiM
namespace Go.Proofs.YtbdhibcbpgjbmaaGreatDoor
set_option maxRecDepth 100000
set_option linter.unusedVariables false

/-- Of any two of the first n numbers just one is ahead; what is ahead of what is ahead is ahead. -/
structure TotO (n : Nat) (lt : Nat → Nat → Bool) : Prop where
 irr : ∀ i, i < n → lt i i = false
 tot : ∀ i j, i < n → j < n → i ≠ j → lt i j = !lt j i
 tra : ∀ i j k, i < n → j < n → k < n → lt i j = true → lt j k = true → lt i k = true
/-- How many are ahead. -/
def rkO (n : Nat) (lt : Nat → Nat → Bool) (i : Nat) : Nat := ((List.range n).filter (fun k => lt k i)).length
theorem filter_le_of {l : List Nat} {p q : Nat → Bool} (h : ∀ x ∈ l, p x = true → q x = true) : (l.filter p).length ≤ (l.filter q).length := by
 induction l with
 | nil => exact Nat.le_refl _
 | cons a l ih =>
  have ih2 := ih (fun x hx => h x (List.mem_cons_of_mem _ hx))
  have ha := h a (List.mem_cons_self ..)
  by_cases hp : p a = true
  ·rw [List.filter_cons_of_pos hp, List.filter_cons_of_pos (ha hp)]; simp; exact ih2
  ·rw [List.filter_cons_of_neg hp]
   by_cases hq : q a = true
   ·rw [List.filter_cons_of_pos hq]; simp; omega
   ·rw [List.filter_cons_of_neg hq]; exact ih2
theorem filter_lt_of {l : List Nat} {p q : Nat → Bool} (h : ∀ x ∈ l, p x = true → q x = true) {y : Nat} (hy : y ∈ l) (h1 : p y = false) (h2 : q y = true) : (l.filter p).length < (l.filter q).length := by
 induction l with
 | nil => cases hy
 | cons a l ih =>
  have h' : ∀ x ∈ l, p x = true → q x = true := fun x hx => h x (List.mem_cons_of_mem _ hx)
  have hle := filter_le_of h'
  have ha := h a (List.mem_cons_self ..)
  by_cases hya : y = a
  ·subst hya
   rw [List.filter_cons_of_neg (by simp [h1]), List.filter_cons_of_pos h2]; simp; omega
  ·have ih2 := ih h' (by rcases List.mem_cons.1 hy with e | e; exact absurd e hya; exact e)
   by_cases hp : p a = true
   ·rw [List.filter_cons_of_pos hp, List.filter_cons_of_pos (ha hp)]; simp; exact ih2
   ·rw [List.filter_cons_of_neg hp]
    by_cases hq : q a = true
    ·rw [List.filter_cons_of_pos hq]; simp; omega
    ·rw [List.filter_cons_of_neg hq]; exact ih2
theorem rkO_lt {n : Nat} {lt : Nat → Nat → Bool} (h : TotO n lt) {i j : Nat} (hi : i < n) (hj : j < n) (hij : lt i j = true) : rkO n lt i < rkO n lt j :=
 filter_lt_of (fun x hx hxi => h.tra x i j (List.mem_range.1 hx) hi hj hxi hij) (List.mem_range.2 hi) (h.irr i hi) hij
theorem rkO_bd {n : Nat} {lt : Nat → Nat → Bool} (h : TotO n lt) {i : Nat} (hi : i < n) : rkO n lt i < n := by
 have := filter_lt_of (l := List.range n) (p := fun k => lt k i) (q := fun _ => true) (fun _ _ _ => rfl) (List.mem_range.2 hi) (h.irr i hi) rfl
 rw [List.filter_eq_self.2 (fun _ _ => rfl), List.length_range] at this
 exact this
theorem rkO_inj {n : Nat} {lt : Nat → Nat → Bool} (h : TotO n lt) {i j : Nat} (hi : i < n) (hj : j < n) (e : rkO n lt i = rkO n lt j) : i = j := by
 by_cases hij : i = j
 ·exact hij
 ·have ht := h.tot i j hi hj hij
  cases hl : lt i j
  ·rw [hl] at ht
   have : lt j i = true := by cases hx : lt j i <;> simp [hx] at ht ⊢
   have := rkO_lt h hj hi this; omega
  ·have := rkO_lt h hi hj hl; omega
theorem rkO_iff {n : Nat} {lt : Nat → Nat → Bool} (h : TotO n lt) {i j : Nat} (hi : i < n) (hj : j < n) : lt i j = true ↔ rkO n lt i < rkO n lt j := by
 constructor
 ·exact rkO_lt h hi hj
 ·intro hr
  by_cases hij : i = j
  ·subst hij; omega
  ·have ht := h.tot i j hi hj hij
   cases hl : lt j i
   ·rw [ht, hl]; rfl
   ·have := rkO_lt h hj hi hl; omega
/-- The one list in order: at the place that tells how many are ahead stands the number. -/
def IsGr (n : Nat) (lt : Nat → Nat → Bool) (g : List Nat) : Prop := g.length = n ∧ ∀ i, i < n → g[rkO n lt i]? = some i
/-- A list of all of them, each once, each ahead of the next one. -/
def IsSo (n : Nat) (lt : Nat → Nat → Bool) (a : List Nat) : Prop := a.length = n ∧ (∀ x ∈ a, x < n) ∧ a.Nodup ∧ ∀ r, r + 1 < n → lt (a.getD r 0) (a.getD (r + 1) 0) = true
/-- Different numbers below n are n at most. -/
theorem nodup_le : ∀ (n : Nat) (l : List Nat), l.Nodup → (∀ x ∈ l, x < n) → l.length ≤ n := by
 intro n
 induction n with
 | zero =>
  intro l _ hb
  cases l with
  | nil => exact Nat.le_refl _
  | cons a l => exact absurd (hb a (List.mem_cons_self ..)) (Nat.not_lt_zero _)
 | succ n ih =>
  intro l hn hb
  by_cases hm : n ∈ l
  ·have h1 := ih (l.erase n) (hn.erase n) (fun x hx => by
    have h2 := (List.Nodup.mem_erase_iff hn).1 hx
    have := hb x h2.2
    have := h2.1
    omega)
   rw [List.length_erase_of_mem hm] at h1
   omega
  ·have h1 := ih l hn (fun x hx => by
    have := hb x hx
    have : x ≠ n := fun e => hm (e ▸ hx)
    omega)
   omega
/-- n different numbers below n are all of them. -/
theorem full_of {n : Nat} {l : List Nat} (hn : l.Nodup) (hl : l.length = n) (hb : ∀ x ∈ l, x < n) : ∀ y, y < n → y ∈ l := by
 intro y hy
 refine Classical.byContradiction fun hm => ?_
 have := nodup_le n (y :: l) (List.nodup_cons.2 ⟨hm, hn⟩) (fun x hx => by
  rcases List.mem_cons.1 hx with rfl | h
  ·exact hy
  ·exact hb x h)
 rw [List.length_cons, hl] at this
 omega
theorem so_rank {n : Nat} {lt : Nat → Nat → Bool} (h : TotO n lt) {a : List Nat} (ha : IsSo n lt a) : ∀ r, r < n → rkO n lt (a.getD r 0) = r := by
 obtain ⟨h1, h2, h3, h4⟩ := ha
 have hget : ∀ r, r < n → a.getD r 0 < n := fun r hr => h2 _ (by rw [List.getD_eq_getElem?_getD, List.getElem?_eq_getElem (by omega)]; exact List.getElem_mem _)
 have hmono : ∀ r, r + 1 < n → rkO n lt (a.getD r 0) < rkO n lt (a.getD (r + 1) 0) := fun r hr => rkO_lt h (hget r (by omega)) (hget (r + 1) hr) (h4 r hr)
 -- a strictly rising list of n numbers below n
 have hge : ∀ r, r < n → r ≤ rkO n lt (a.getD r 0) := by
  intro r
  induction r with
  | zero => intro _; exact Nat.zero_le _
  | succ r ih => intro hr; have := ih (by omega); have := hmono r hr; omega
 have hle : ∀ s r, r < n → n - 1 - r = s → rkO n lt (a.getD r 0) + s ≤ n - 1 := by
  intro s
  induction s with
  | zero => intro r hr _; have := rkO_bd h (hget r hr); omega
  | succ s ih => intro r hr hs; have := ih (r + 1) (by omega) (by omega); have := hmono r (by omega); omega
 intro r hr
 have := hge r hr
 have := hle (n - 1 - r) r hr rfl
 omega
/-- What is in order is the one list. -/
theorem so_gr {n : Nat} {lt : Nat → Nat → Bool} (h : TotO n lt) {a g : List Nat} (ha : IsSo n lt a) (hg : IsGr n lt g) : a = g := by
 apply List.ext_getElem?
 intro r
 by_cases hr : r < n
 ·have e := so_rank h ha r hr
  have hb : a.getD r 0 < n := ha.2.1 _ (by rw [List.getD_eq_getElem?_getD, List.getElem?_eq_getElem (by have := ha.1; omega)]; exact List.getElem_mem _)
  have h2 := hg.2 _ hb
  rw [e] at h2
  rw [h2, List.getElem?_eq_getElem (by have := ha.1; omega), List.getD_eq_getElem?_getD, List.getElem?_eq_getElem (by have := ha.1; omega)]
  rfl
 ·rw [List.getElem?_eq_none (by have := ha.1; omega), List.getElem?_eq_none (by have := hg.1; omega)]
/-- The one list is in order. -/
theorem gr_so {n : Nat} {lt : Nat → Nat → Bool} (h : TotO n lt) {g : List Nat} (hg : IsGr n lt g) : IsSo n lt g := by
 obtain ⟨h1, h2⟩ := hg
 -- each place is a rank: the ranks are n different numbers below n
 have hrk : ∀ r, r < n → ∃ i, i < n ∧ rkO n lt i = r := by
  intro r hr
  have hnd : ((List.range n).map (rkO n lt)).Nodup := by
   rw [List.nodup_iff_pairwise_ne, List.pairwise_map]
   refine List.Pairwise.imp_of_mem (fun hx hy hne e => hne (rkO_inj h (List.mem_range.1 hx) (List.mem_range.1 hy) e)) (List.nodup_iff_pairwise_ne.1 List.nodup_range)
  have := full_of (n := n) hnd (by simp) (fun x hx => by obtain ⟨i, hi, rfl⟩ := List.mem_map.1 hx; exact rkO_bd h (List.mem_range.1 hi)) r hr
  obtain ⟨i, hi, e⟩ := List.mem_map.1 this
  exact ⟨i, List.mem_range.1 hi, e⟩
 have hat : ∀ r, r < n → g.getD r 0 < n ∧ rkO n lt (g.getD r 0) = r := by
  intro r hr
  obtain ⟨i, hi, rfl⟩ := hrk r hr
  rw [List.getD_eq_getElem?_getD, h2 i hi]
  exact ⟨hi, rfl⟩
 refine ⟨h1, ?_, ?_, ?_⟩
 ·intro x hx
  obtain ⟨r, hr, rfl⟩ := List.getElem_of_mem hx
  have := (hat r (by omega)).1
  rw [List.getD_eq_getElem?_getD, List.getElem?_eq_getElem hr] at this
  exact this
 ·rw [List.nodup_iff_pairwise_ne, List.pairwise_iff_getElem]
  intro r s hr hs hrs e
  have a1 := (hat r (by omega)).2
  have a2 := (hat s (by omega)).2
  rw [List.getD_eq_getElem?_getD, List.getElem?_eq_getElem hr] at a1
  rw [List.getD_eq_getElem?_getD, List.getElem?_eq_getElem hs] at a2
  simp only [Option.getD_some] at a1 a2
  rw [e] at a1; omega
 ·intro r hr
  obtain ⟨b1, c1⟩ := hat r (by omega)
  obtain ⟨b2, c2⟩ := hat (r + 1) hr
  exact (rkO_iff h b1 b2).2 (by omega)
theorem so_iff {n : Nat} {lt : Nat → Nat → Bool} (h : TotO n lt) {a g : List Nat} (hg : IsGr n lt g) : IsSo n lt a ↔ a = g := ⟨fun ha => so_gr h ha hg, fun e => e ▸ gr_so h hg⟩
end Go.Proofs.YtbdhibcbpgjbmaaGreatDoor

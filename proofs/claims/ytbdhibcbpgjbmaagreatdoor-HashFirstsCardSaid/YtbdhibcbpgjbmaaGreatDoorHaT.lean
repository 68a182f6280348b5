/- Layer 19, plain: a table of slots: what lies in it, where a search ends, what putting turns. -/
import Derived.Test.YtbdhibcbpgjbmaaGreatDoorHaM
namespace Go.Proofs.YtbdhibcbpgjbmaaGreatDoor
set_option maxRecDepth 100000
open Go.RowKit Fl
set_option linter.unusedVariables false

/-- A slot of a table; an empty one, where there is none. -/
def sAt (S : List (Nat × Int)) (i : Nat) : Nat × Int := S.getD i (0, -1)
theorem sAt_get {S : List (Nat × Int)} {i : Nat} (h : i < S.length) : S[i]? = some (sAt S i) := by
 unfold sAt
 rw [List.getD_eq_getElem?_getD, List.getElem?_eq_getElem h]; rfl
theorem sAt_set {S : List (Nat × Int)} {r : Nat} {t : Nat × Int} (h : r < S.length) (s : Nat) : sAt (S.set r t) s = if s = r then t else sAt S s := by
 unfold sAt
 rw [List.getD_eq_getElem?_getD, List.getD_eq_getElem?_getD]
 by_cases e : s = r
 ·subst e
  rw [if_pos rfl, List.getElem?_set_self h]; rfl
 ·rw [if_neg e, List.getElem?_set_ne (fun x => e x.symm)]
structure HTab (its : Nat → PI) (K : PI → Nat) (n : Nat) (P : List Nat) (S : List (Nat × Int)) : Prop where
 pos : 0 < S.length
 lt : ∀ p ∈ P, p < n
 sl : ∀ s, s < S.length → (sAt S s).2 = -1 ∨ ∃ p ∈ P, sAt S s = (K (its p), (p : Int))
 pl : ∀ p ∈ P, ∃ d, d < S.length ∧ sAt S ((K (its p) + d) % S.length) = (K (its p), (p : Int)) ∧ ∀ e, e < d → (sAt S ((K (its p) + e) % S.length)).2 ≠ -1
 ct : S.countP (fun t => decide (t.2 ≠ -1)) = P.length
theorem HTab.start (its : Nat → PI) (K : PI → Nat) (n m : Nat) (h : 0 < m) : HTab its K n [] (List.replicate m (0, -1)) := by
 refine ⟨by simpa using h, fun p hp => by simp at hp, fun s hs => Or.inl ?_, fun p hp => by simp at hp, ?_⟩
 ·unfold sAt
  rw [List.length_replicate] at hs
  rw [List.getD_eq_getElem?_getD, List.getElem?_replicate, if_pos hs]; rfl
 ·rw [List.countP_replicate]; simp
theorem HTab.room {its : Nat → PI} {K : PI → Nat} {n : Nat} {P : List Nat} {S : List (Nat × Int)} (h : HTab its K n P S) (hl : P.length < S.length) : ∃ s, s < S.length ∧ (sAt S s).2 = -1 := by
 apply Classical.byContradiction
 intro hn
 have : S.countP (fun t => decide (t.2 ≠ -1)) = S.length := by
  rw [List.countP_eq_length]
  intro t ht
  obtain ⟨i, hi, rfl⟩ := List.mem_iff_getElem.1 ht
  have hs := sAt_get hi
  rw [List.getElem?_eq_getElem hi] at hs
  rw [Option.some.inj hs]
  exact decide_eq_true (fun e => hn ⟨i, hi, e⟩)
 have := h.ct
 omega
theorem reach (k s m : Nat) (hs : s < m) : ∃ d, d < m ∧ (k + d) % m = s := by
 have hm : 0 < m := by omega
 have hk := Nat.mod_lt k hm
 refine ⟨(s + m - k % m) % m, Nat.mod_lt _ hm, ?_⟩
 rw [Nat.add_mod_mod]
 have e : k = m * (k / m) + k % m := (Nat.div_add_mod k m).symm
 obtain ⟨r, hr⟩ : ∃ r, k % m = r := ⟨_, rfl⟩
 rw [hr] at e hk ⊢
 have : k + (s + m - r) = m * (k / m) + (s + m) := by
  conv => lhs; rw [e]
  omega
 rw [this, Nat.mul_add_mod, Nat.add_mod_right, Nat.mod_eq_of_lt hs]
/-- A slot that is full, of an element that is not like this one. -/
def Miss (its : Nat → PI) (P : List Nat) (S : List (Nat × Int)) (x : PI) (s : Nat) : Prop := (sAt S s).2 ≠ -1 ∧ ∀ p ∈ P, (sAt S s).2 = (p : Int) → its p ≠ x
theorem HTab.bound {its : Nat → PI} {K : PI → Nat} {n : Nat} {P : List Nat} {S : List (Nat × Int)} (h : HTab its K n P S) (hl : P.length < S.length) {x : PI} {k d : Nat} (hd : ∀ e, e < d → Miss its P S x ((k + e) % S.length)) : d < S.length := by
 obtain ⟨s, hs, he⟩ := h.room hl
 obtain ⟨d0, h0, e0⟩ := reach k s S.length hs
 by_cases hc : d0 < d
 ·have := (hd d0 hc).1
  rw [e0] at this
  exact absurd he this
 ·omega
theorem HTab.none {its : Nat → PI} {K : PI → Nat} {n : Nat} {P : List Nat} {S : List (Nat × Int)} (h : HTab its K n P S) {x : PI} {d : Nat} (hd : ∀ e, e < d → Miss its P S x ((K x + e) % S.length))
  (he : (sAt S ((K x + d) % S.length)).2 = -1) : ∀ p ∈ P, its p ≠ x := by
 intro p hp hx
 obtain ⟨d', h1, h2, h3⟩ := h.pl p hp
 rw [hx] at h2 h3
 rcases Nat.lt_trichotomy d' d with hlt | heq | hgt
 ·exact (hd d' hlt).2 p hp (by rw [h2]) hx
 ·subst heq
  rw [h2] at he
  simp at he
 ·exact h3 d hgt he
/-- Where a search ends. -/
def SlotRes (its : Nat → PI) (K : PI → Nat) (P : List Nat) (S : List (Nat × Int)) (x : PI) (r : Nat) : Prop :=
 r < S.length ∧ (((sAt S r).2 = -1 ∧ (∀ p ∈ P, its p ≠ x) ∧ ∃ d, d < S.length ∧ r = (K x + d) % S.length ∧ ∀ e, e < d → Miss its P S x ((K x + e) % S.length)) ∨ ∃ p ∈ P, sAt S r = (K (its p), (p : Int)) ∧ its p = x)
theorem HTab.put {its : Nat → PI} {K : PI → Nat} {n : Nat} {P : List Nat} {S : List (Nat × Int)} (h : HTab its K n P S) {i r : Nat} (hi : i < n) (hr : SlotRes its K P S (its i) r) (he : (sAt S r).2 = -1) :
  HTab its K n (P ++ [i]) (S.set r (K (its i), (i : Int))) := by
 obtain ⟨hrl, hc⟩ := hr
 rcases hc with ⟨_, hno, d, hdl, hrd, hd⟩ | ⟨p, hp, hs, _⟩
 ·have hat := fun s => sAt_set (t := (K (its i), (i : Int))) hrl s
  have hne : ∀ s, (sAt S s).2 ≠ -1 → (sAt (S.set r (K (its i), (i : Int))) s).2 ≠ -1 := by
   intro s hs
   rw [hat]
   split
   ·intro e; simp at e
   ·exact hs
  refine ⟨by rw [List.length_set]; exact h.pos, ?_, ?_, ?_, ?_⟩
  ·intro p hp
   rcases List.mem_append.1 hp with hp | hp
   ·exact h.lt p hp
   ·rw [List.mem_singleton.1 hp]; exact hi
  ·intro s hs
   rw [List.length_set] at hs
   rw [hat]
   by_cases e : s = r
   ·rw [if_pos e]
    exact Or.inr ⟨i, by simp, rfl⟩
   ·rw [if_neg e]
    rcases h.sl s hs with h0 | ⟨p, hp, e1⟩
    ·exact Or.inl h0
    ·exact Or.inr ⟨p, List.mem_append_left _ hp, e1⟩
  ·intro p hp
   rw [List.length_set]
   rcases List.mem_append.1 hp with hp | hp
   ·obtain ⟨d', h1, h2, h3⟩ := h.pl p hp
    refine ⟨d', h1, ?_, fun e hlt => hne _ (h3 e hlt)⟩
    rw [hat, if_neg, h2]
    intro e
    rw [← e, h2] at he
    simp at he
   ·obtain rfl := List.mem_singleton.1 hp
    refine ⟨d, hdl, ?_, fun e hlt => hne _ (hd e hlt).1⟩
    rw [hat, ← hrd, if_pos rfl]
  ·have e9 : S[r] = sAt S r := by
    have hs := sAt_get hrl
    rw [List.getElem?_eq_getElem hrl] at hs
    exact Option.some.inj hs
   rw [List.countP_set hrl, h.ct, e9, if_neg (by rw [he]; decide), if_pos (by rw [decide_eq_true_iff]; intro e; simp at e), List.length_append]
   rfl
 ·rw [hs] at he
  simp at he
/-- The places below j of those that no earlier one is like. -/
noncomputable def fstL (l : List PI) (j : Nat) : List Nat := (List.range j).filter (fun i => decide (fndI l (atI l (blankI 0) (i : Int)) = i))
theorem fstL_all (l : List PI) : fstL l l.length = frsL l := rfl
theorem fstL_len (l : List PI) (j : Nat) : (fstL l j).length ≤ j := by
 have := List.length_filter_le (fun i => decide (fndI l (atI l (blankI 0) ((i : Nat) : Int)) = i)) (List.range j)
 rw [List.length_range] at this
 exact this
theorem fstL_mem {l : List PI} {j p : Nat} (h : p ∈ fstL l j) : p < j ∧ fndI l (atI l (blankI 0) (p : Int)) = p := by
 obtain ⟨h1, h2⟩ := List.mem_filter.1 h
 exact ⟨List.mem_range.1 h1, of_decide_eq_true h2⟩
theorem fstL_snoc (l : List PI) (j : Nat) : fstL l (j + 1) = fstL l j ++ (if fndI l (atI l (blankI 0) (j : Int)) = j then [j] else []) := by
 unfold fstL
 rw [filter_range_snoc]
 congr 1
 by_cases h : fndI l (atI l (blankI 0) (j : Int)) = j
 ·rw [if_pos (by simpa using h), if_pos h]
 ·rw [if_neg (by simpa using h), if_neg h]
theorem iq_eq {x y : PI} (h : iq x y = true) : x = y := by
 by_cases e : x = y
 ·exact e
 ·rw [iq_no e] at h; cases h
theorem fndI_at {l : List PI} {x : PI} (h : fndI l x < l.length) : atI l (blankI 0) ((fndI l x : Nat) : Int) = x := by
 rw [atI_nat h]
 exact iq_eq (List.findIdx_getElem (p := fun y => iq y x) (xs := l) (w := h))
/-- What a table of the first ones says of an item that it holds .. -/
theorem fst_hit {l : List PI} {j p : Nat} {x : PI} (hp : p ∈ fstL l j) (hx : atI l (blankI 0) (p : Int) = x) : fndI l x = p ∧ p < j := by
 obtain ⟨h1, h2⟩ := fstL_mem hp
 rw [hx] at h2
 exact ⟨h2, h1⟩
/-- .. and of one that it does not. -/
theorem fst_miss {l : List PI} {j : Nat} {x : PI} (hj : j ≤ l.length) (hx : ∀ p ∈ fstL l j, atI l (blankI 0) (p : Int) ≠ x) : j ≤ fndI l x := by
 apply Classical.byContradiction
 intro hn
 have hlt : fndI l x < l.length := by omega
 have e := fndI_at hlt
 refine hx (fndI l x) ?_ e
 unfold fstL
 rw [List.mem_filter]
 exact ⟨List.mem_range.2 (by omega), decide_eq_true (by rw [e])⟩
theorem fndI_self {l : List PI} {j : Nat} (hj : j < l.length) : fndI l (atI l (blankI 0) (j : Int)) ≤ j := by
 apply Classical.byContradiction
 intro hn
 have := List.not_of_lt_findIdx (p := fun y => iq y (atI l (blankI 0) (j : Int))) (xs := l) (i := j) (by unfold fndI at hn; omega)
 simp only [atI_nat hj] at this
 rw [iq_yes rfl] at this
 cases this
end Go.Proofs.YtbdhibcbpgjbmaaGreatDoor

/- Plain arrays, plain: what is wrong with one; tidied; its depth. -/
import Derived.Test.YtbdhibcbpgjbmaaGreatDoorVaA
import Derived.Test.YtbdhibcbpgjbmaaGreatDoorNuN
import Derived.Test.YtbdhibcbpgjbmaaGreatDoorShM
namespace Go.Proofs.YtbdhibcbpgjbmaaGreatDoor
set_option maxRecDepth 100000
open Fl
set_option linter.unusedVariables false

def hd (q : List PA) : PA := q[0]?.getD default
theorem hd_at {q : List PA} {y : PA} (h : q[0]? = some y) : hd q = y := by unfold hd; rw [h]; rfl
/-- The first that is not 0. -/
def fe (f : PI → Int) : List PI → Int
 | [] => 0
 | x :: l => if f x ≠ 0 then f x else fe f l
theorem fe_append (f : PI → Int) (l m : List PI) (h : fe f l = 0) : fe f (l ++ m) = fe f m := by
 induction l with
 | nil => rfl
 | cons x l ih =>
  simp only [fe, List.cons_append] at h ⊢
  by_cases hx : f x = 0
  ·simp only [hx, ne_eq, not_true_eq_false, if_false] at h ⊢; exact ih h
  ·rw [if_pos hx] at h; exact absurd h hx
theorem ptake {α : Type} {l : List α} {k : Nat} {x : α} (h : l[k]? = some x) : l.take (k + 1) = l.take k ++ [x] := by
 obtain ⟨hk, e⟩ := List.getElem?_eq_some_iff.1 h
 rw [List.take_succ_eq_append_getElem hk, e]
theorem fe_take {f : PI → Int} {l : List PI} {k : Nat} {x : PI} (h : l[k]? = some x) (h0 : fe f (l.take k) = 0) (hx : f x = 0) : fe f (l.take (k + 1)) = 0 := by
 rw [ptake h, fe_append _ _ _ h0]; simp [fe, hx]
theorem fe_hit {f : PI → Int} {l : List PI} {k : Nat} {x : PI} (h : l[k]? = some x) (h0 : fe f (l.take k) = 0) (hx : f x ≠ 0) : fe f l = f x := by
 obtain ⟨hk, e⟩ := List.getElem?_eq_some_iff.1 h
 have : l = l.take k ++ (x :: l.drop (k + 1)) := by rw [← e, ← List.drop_eq_getElem_cons hk, List.take_append_drop]
 rw [this, fe_append _ _ _ h0]
 simp [fe, hx]
theorem fe_zero {f : PI → Int} {l : List PI} (h : fe f l = 0) : ∀ x ∈ l, f x = 0 := by
 induction l with
 | nil => intro x hx; simp at hx
 | cons y l ih =>
  simp only [fe] at h
  by_cases hy : f y = 0
  ·simp only [hy, ne_eq, not_true_eq_false, if_false] at h
   intro x hx
   rcases List.mem_cons.1 hx with rfl | hx
   ·exact hy
   ·exact ih h x hx
  ·rw [if_pos hy] at h; exact absurd h hy
/-- What is wrong with an item. -/
def itE (c : PA → Int) (f : Int) (x : PI) : Int := if x.1 ≠ f ∨ (x.1 = 2 ∧ x.2.2.2.length ≠ 1) then 1 else if x.1 = 2 then c (hd x.2.2.2) else 0
instance instDecFnt7 (x : Nat) : Decidable (Fnt x) := by unfold Fnt; infer_instance
def finI (x : PI) : Bool := decide (x.1 ≠ 0 ∨ Fnt x.2.1)
/-- What is wrong with a plain array. -/
def chk : Nat → PA → Int
 | 0, _ => 1
 | d + 1, p => if p.f < 0 ∨ 2 < p.f then 1 else if (prodR p.s 1048576).2 ≠ 0 then (prodR p.s 1048576).2 else if (prodR p.s 1048576).1 ≠ (p.l.length : Int) then 23 else
   if fe (itE (chk d) p.f) p.l ≠ 0 then fe (itE (chk d) p.f) p.l else if p.l.all finI = true then 0 else 1
theorem chk_f {d : Nat} {p : PA} (h : p.f < 0 ∨ 2 < p.f) : chk (d + 1) p = 1 := by simp only [chk]; rw [if_pos h]
theorem chk_s {d : Nat} {p : PA} (h : ¬ (p.f < 0 ∨ 2 < p.f)) (h1 : (prodR p.s 1048576).2 ≠ 0) : chk (d + 1) p = (prodR p.s 1048576).2 := by simp only [chk]; rw [if_neg h, if_pos h1]
theorem chk_n {d : Nat} {p : PA} (h : ¬ (p.f < 0 ∨ 2 < p.f)) (h1 : (prodR p.s 1048576).2 = 0) (h2 : (prodR p.s 1048576).1 ≠ (p.l.length : Int)) : chk (d + 1) p = 23 := by simp only [chk]; rw [if_neg h, if_neg (by simpa using h1), if_pos h2]
theorem chk_e {d : Nat} {p : PA} (h : ¬ (p.f < 0 ∨ 2 < p.f)) (h1 : (prodR p.s 1048576).2 = 0) (h2 : (prodR p.s 1048576).1 = (p.l.length : Int)) : chk (d + 1) p = if fe (itE (chk d) p.f) p.l ≠ 0 then fe (itE (chk d) p.f) p.l else if p.l.all finI = true then 0 else 1 := by simp only [chk]; rw [if_neg h, if_neg (by simpa using h1), if_neg (by simpa using h2)]
theorem prodR_le (s : List Int) : 0 ≤ (prodR s 1048576).1 ∧ (prodR s 1048576).1 ≤ 1048576 := by
 have := nzp_pos s
 unfold prodR
 split <;> (try split) <;> (try split) <;> (try split) <;> (try split) <;> simp_all <;> omega
theorem prodR_len {s : List Int} {n : Nat} (h : prodR s 1048576 = ((n : Int), 0)) : s.length ≤ 8 ∧ n ≤ 1048576 := by
 have := prodR_le s
 rw [h] at this
 refine ⟨?_, by simp at this; omega⟩
 apply Nat.le_of_not_lt
 intro h8
 unfold prodR at h
 rw [if_pos h8] at h
 simp at h
/-- All is well with a plain array. -/
def wellP (d : Nat) (p : PA) : Prop := 0 ≤ p.f ∧ p.f ≤ 2 ∧ prodR p.s 1048576 = ((p.l.length : Int), 0) ∧ ∀ x ∈ p.l, x.1 = p.f ∧ (x.1 = 2 → ∃ q, x.2.2.2 = [q] ∧ chk d q = 0) ∧ (x.1 = 0 → Fnt x.2.1)
theorem chk_well {d : Nat} {p : PA} : chk (d + 1) p = 0 ↔ wellP d p := by
 unfold wellP
 constructor
 ·intro h
  by_cases h0 : p.f < 0 ∨ 2 < p.f
  ·rw [chk_f h0] at h; cases h
  by_cases h1 : (prodR p.s 1048576).2 = 0
  rotate_left
  ·rw [chk_s h0 h1] at h; exact absurd h h1
  by_cases h2 : (prodR p.s 1048576).1 = (p.l.length : Int)
  rotate_left
  ·rw [chk_n h0 h1 h2] at h; cases h
  rw [chk_e h0 h1 h2] at h
  by_cases h3 : fe (itE (chk d) p.f) p.l = 0
  rotate_left
  ·rw [if_pos h3] at h; exact absurd h h3
  rw [if_neg (by simpa using h3)] at h
  by_cases h4 : p.l.all finI = true
  rotate_left
  ·rw [if_neg h4] at h; cases h
  refine ⟨by omega, by omega, by rw [← h2, ← h1], fun x hx => ?_⟩
  have hi := fe_zero h3 x hx
  have hf := List.all_eq_true.1 h4 x hx
  unfold itE at hi
  by_cases c1 : x.1 ≠ p.f ∨ (x.1 = 2 ∧ x.2.2.2.length ≠ 1)
  ·rw [if_pos c1] at hi; cases hi
  rw [if_neg c1] at hi
  simp only [not_or, not_and, Decidable.not_not, ne_eq] at c1
  refine ⟨c1.1, fun c2 => ?_, fun c0 => ?_⟩
  ·have hl := c1.2 c2
   rw [if_pos c2] at hi
   obtain ⟨q, hq⟩ := List.length_eq_one_iff.1 hl
   refine ⟨q, hq, ?_⟩
   rw [hq] at hi; exact hi
  ·have := of_decide_eq_true hf
   rcases this with h | h
   ·exact absurd c0 h
   ·exact h
 ·rintro ⟨h1, h2, h3, h4⟩
  have e1 : (prodR p.s 1048576).2 = 0 := by rw [h3]
  have e2 : (prodR p.s 1048576).1 = (p.l.length : Int) := by rw [h3]
  rw [chk_e (by omega) e1 e2]
  have e3 : fe (itE (chk d) p.f) p.l = 0 := by
   have : ∀ l : List PI, (∀ x ∈ l, itE (chk d) p.f x = 0) → fe (itE (chk d) p.f) l = 0 := by
    intro l
    induction l with
    | nil => intro _; rfl
    | cons x l ih =>
     intro h
     have hx := h x (List.mem_cons_self ..)
     simp only [fe, hx, ne_eq, not_true_eq_false, if_false]
     exact ih fun y hy => h y (List.mem_cons_of_mem _ hy)
   refine this _ fun x hx => ?_
   obtain ⟨a, b, c⟩ := h4 x hx
   unfold itE
   by_cases c2 : x.1 = 2
   ·obtain ⟨q, hq, hq2⟩ := b c2
    rw [if_neg (by rw [hq]; simp [a]), if_pos c2, hq]; exact hq2
   ·rw [if_neg (by simp [a]; intro h; omega), if_neg c2]
  rw [if_neg (by simpa using e3), if_pos]
  apply List.all_eq_true.2
  intro x hx
  apply decide_eq_true
  by_cases c0 : x.1 = 0
  ·exact .inr ((h4 x hx).2.2 c0)
  ·exact .inl c0
theorem chk_mono {d : Nat} : ∀ {e : Nat} {p : PA}, d ≤ e → chk d p = 0 → chk e p = 0 := by
 induction d with
 | zero => intro e p _ h; simp [chk] at h
 | succ d ih =>
  intro e p he h
  obtain ⟨e, rfl⟩ : ∃ e', e = e' + 1 := ⟨e - 1, by omega⟩
  rw [chk_well] at h ⊢
  obtain ⟨h1, h2, h3, h4⟩ := h
  refine ⟨h1, h2, h3, fun x hx => ⟨(h4 x hx).1, fun c => ?_, (h4 x hx).2.2⟩⟩
  obtain ⟨q, hq, hq2⟩ := (h4 x hx).2.1 c
  exact ⟨q, hq, ih (by omega) hq2⟩
theorem all_take {f : PI → Bool} {l : List PI} {k : Nat} {x : PI} (h : l[k]? = some x) : (l.take (k + 1)).all f = ((l.take k).all f && f x) := by
 rw [ptake h]; simp
theorem itE_kind {c : PA → Int} {f : Int} {x : PI} (h : x.1 ≠ f) : itE c f x = 1 := by unfold itE; exact if_pos (.inl h)
theorem itE_len {c : PA → Int} {f : Int} {x : PI} (h : x.1 = 2) (h2 : x.2.2.2.length ≠ 1) : itE c f x = 1 := by unfold itE; exact if_pos (.inr ⟨h, h2⟩)
theorem itE_box {c : PA → Int} {f : Int} {x : PI} {q : PA} (h : x.1 = f) (h1 : x.1 = 2) (h2 : x.2.2.2 = [q]) : itE c f x = c q := by
 unfold itE; rw [if_neg (by rw [h2]; simp [h]), if_pos h1, h2]; rfl
theorem itE_other {c : PA → Int} {f : Int} {x : PI} (h : x.1 = f) (h1 : x.1 ≠ 2) : itE c f x = 0 := by
 unfold itE; rw [if_neg (by simp only [not_or, not_and]; exact ⟨fun e => e h, fun e => absurd e h1⟩), if_neg h1]
theorem chk_hit {d k : Nat} {p : PA} {x : PI} {v : Int} (h : ¬ (p.f < 0 ∨ 2 < p.f)) (h1 : (prodR p.s 1048576).2 = 0) (h2 : (prodR p.s 1048576).1 = (p.l.length : Int)) (hx : p.l[k]? = some x) (h0 : fe (itE (chk d) p.f) (p.l.take k) = 0)
  (hv : itE (chk d) p.f x = v) (hv0 : v ≠ 0) : chk (d + 1) p = v := by
 rw [chk_e h h1 h2, fe_hit hx h0 (by rw [hv]; exact hv0), hv, if_pos hv0]
theorem chk_end {d : Nat} {p : PA} (h : ¬ (p.f < 0 ∨ 2 < p.f)) (h1 : (prodR p.s 1048576).2 = 0) (h2 : (prodR p.s 1048576).1 = (p.l.length : Int)) (h0 : fe (itE (chk d) p.f) p.l = 0) : chk (d + 1) p = if p.l.all finI = true then 0 else 1 := by
 rw [chk_e h h1 h2, if_neg (by simpa using h0)]
theorem finI_box {x : PI} (h : x.1 ≠ 0) : finI x = true := decide_eq_true (.inl h)
theorem finI_fin {x : PI} (h : Fnt x.2.1) : finI x = true := decide_eq_true (.inr h)
theorem finI_non {x : PI} (h : x.1 = 0) (h2 : ¬ Fnt x.2.1) : finI x = false := decide_eq_false (by simp [h, h2])
end Go.Proofs.YtbdhibcbpgjbmaaGreatDoor

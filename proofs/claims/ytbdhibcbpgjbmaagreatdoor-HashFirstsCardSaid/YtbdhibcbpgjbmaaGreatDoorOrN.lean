/- Layer 16, plain: cells of keys, the first difference; cells and their places are in a strict total order. -/
import Derived.Test.YtbdhibcbpgjbmaaGreatDoorOrM
namespace Go.Proofs.YtbdhibcbpgjbmaaGreatDoor
set_option maxRecDepth 100000
set_option linter.unusedVariables false

/-- How two lists of keys stand: by their first difference. -/
def lexI : List Int → List Int → Int
 | x :: l, y :: m => if x < y then -1 else if y < x then 1 else lexI l m
 | _, _ => 0
theorem lexI_self (a : List Int) : lexI a a = 0 := by
 induction a with
 | nil => rfl
 | cons x a ih => simp only [lexI, Int.lt_irrefl, if_false]; exact ih
theorem lexI_turn : ∀ a b : List Int, lexI b a = - lexI a b
 | [], [] => rfl
 | [], _ :: _ => rfl
 | _ :: _, [] => rfl
 | x :: a, y :: b => by
  simp only [lexI]
  by_cases h1 : x < y
  ·rw [if_neg (show ¬ y < x by omega), if_pos h1, if_pos h1]; rfl
  ·by_cases h2 : y < x
   ·rw [if_pos h2, if_neg h1, if_pos h2]
   ·rw [if_neg h2, if_neg h1, if_neg h1, if_neg h2]; exact lexI_turn a b
theorem lexI_cases : ∀ a b : List Int, lexI a b = -1 ∨ lexI a b = 0 ∨ lexI a b = 1
 | [], [] => Or.inr (Or.inl rfl)
 | [], _ :: _ => Or.inr (Or.inl rfl)
 | _ :: _, [] => Or.inr (Or.inl rfl)
 | x :: a, y :: b => by
  simp only [lexI]
  split
  ·exact Or.inl rfl
  ·split
   ·exact Or.inr (Or.inr rfl)
   ·exact lexI_cases a b
theorem lexI_eq : ∀ a b : List Int, a.length = b.length → lexI a b = 0 → a = b
 | [], [], _, _ => rfl
 | [], _ :: _, h, _ => by simp at h
 | _ :: _, [], h, _ => by simp at h
 | x :: a, y :: b, h, e => by
  simp only [lexI] at e
  by_cases h1 : x < y
  ·rw [if_pos h1] at e; cases e
  ·by_cases h2 : y < x
   ·rw [if_neg h1, if_pos h2] at e; cases e
   ·rw [if_neg h1, if_neg h2] at e
    rw [show x = y by omega, lexI_eq a b (by simpa using h) e]
theorem lexI_tra : ∀ a b c : List Int, a.length = b.length → b.length = c.length → lexI a b ≤ 0 → lexI b c ≤ 0 → lexI a c ≤ 0 ∧ (lexI a c = 0 → lexI a b = 0 ∧ lexI b c = 0)
 | [], [], [], _, _, _, _ => ⟨Int.le_refl _, fun _ => ⟨rfl, rfl⟩⟩
 | [], [], _ :: _, _, h, _, _ => by simp at h
 | [], _ :: _, _, h, _, _, _ => by simp at h
 | _ :: _, [], _, h, _, _, _ => by simp at h
 | _ :: _, _ :: _, [], _, h, _, _ => by simp at h
 | x :: a, y :: b, z :: c, h1, h2, e1, e2 => by
  simp only [lexI] at e1 e2 ⊢
  by_cases p1 : x < y
  ·by_cases p2 : y < z
   ·rw [if_pos (show x < z by omega)]; exact ⟨by omega, fun e => by cases e⟩
   ·by_cases p3 : z < y
    ·rw [if_neg p2, if_pos p3] at e2; omega
    ·rw [if_pos (show x < z by omega)]; exact ⟨by omega, fun e => by cases e⟩
  ·by_cases p4 : y < x
   ·rw [if_neg p1, if_pos p4] at e1; omega
   ·rw [if_neg p1, if_neg p4] at e1 ⊢
    by_cases p2 : y < z
    ·rw [if_pos (show x < z by omega)]; exact ⟨by omega, fun e => by cases e⟩
    ·by_cases p3 : z < y
     ·rw [if_neg p2, if_pos p3] at e2; omega
     ·rw [if_neg p2, if_neg p3] at e2 ⊢
      rw [if_neg (show ¬ x < z by omega), if_neg (show ¬ z < x by omega)]
      exact lexI_tra a b c (by simpa using h1) (by simpa using h2) e1 e2
/-- Up to a place they are the same. -/
theorem lexI_drop {a b : List Int} : ∀ (j : Nat), j ≤ a.length → j ≤ b.length → (∀ i, i < j → a[i]? = b[i]?) → lexI a b = lexI (a.drop j) (b.drop j) := by
 intro j
 induction j generalizing a b with
 | zero => intro _ _ _; rfl
 | succ j ih =>
  intro h1 h2 h3
  cases a with
  | nil => simp at h1
  | cons x a =>
   cases b with
   | nil => simp at h2
   | cons y b =>
    have e := h3 0 (by omega)
    simp only [List.getElem?_cons_zero, Option.some.injEq] at e
    subst e
    simp only [lexI, Int.lt_irrefl, if_false, List.drop_succ_cons]
    exact ih (by simpa using h1) (by simpa using h2) (fun i hi => by have := h3 (i + 1) (by omega); simpa using this)
theorem lexI_hit {a b : List Int} {j : Nat} {x y : Int} (ha : a[j]? = some x) (hb : b[j]? = some y) (h : ∀ i, i < j → a[i]? = b[i]?) : lexI a b = if x < y then -1 else if y < x then 1 else lexI (a.drop (j + 1)) (b.drop (j + 1)) := by
 obtain ⟨h1, e1⟩ := List.getElem?_eq_some_iff.1 ha
 obtain ⟨h2, e2⟩ := List.getElem?_eq_some_iff.1 hb
 rw [lexI_drop j (by omega) (by omega) h, List.drop_eq_getElem_cons h1, List.drop_eq_getElem_cons h2, e1, e2]
 rfl
theorem lexI_all {a b : List Int} (hl : a.length = b.length) (h : ∀ i, i < a.length → a[i]? = b[i]?) : lexI a b = 0 := by
 have : a = b := List.ext_getElem? fun i => by
  by_cases hi : i < a.length
  ·exact h i hi
  ·rw [List.getElem?_eq_none (by omega), List.getElem?_eq_none (by omega)]
 rw [this]; exact lexI_self b

/-- Cell i of a row of keys. -/
def celK (K : Nat → Int) (size i : Nat) : List Int := (List.range size).map fun j => K (i * size + j)
theorem celK_len (K : Nat → Int) (size i : Nat) : (celK K size i).length = size := by simp [celK]
theorem celK_get {K : Nat → Int} {size i j : Nat} (h : j < size) : (celK K size i)[j]? = some (K (i * size + j)) := by simp [celK, h]
def cmpK (K : Nat → Int) (size i k : Nat) : Int := lexI (celK K size i) (celK K size k)
/-- Which one is ahead: upwards or downwards; of alike ones the first. -/
def lesK (K : Nat → Int) (size : Nat) (down : Bool) (i k : Nat) : Bool := let c := if down then - cmpK K size i k else cmpK K size i k
 decide (c < 0 ∨ c = 0 ∧ i < k)
theorem lesK_tot (K : Nat → Int) (size : Nat) (down : Bool) (n : Nat) : TotO n (lesK K size down) := by
 have ht : ∀ i k, cmpK K size k i = - cmpK K size i k := fun i k => lexI_turn _ _
 have h3 : ∀ i k, cmpK K size i k = -1 ∨ cmpK K size i k = 0 ∨ cmpK K size i k = 1 := fun i k => lexI_cases _ _
 have tr : ∀ i j k, cmpK K size i j ≤ 0 → cmpK K size j k ≤ 0 → cmpK K size i k ≤ 0 ∧ (cmpK K size i k = 0 → cmpK K size i j = 0 ∧ cmpK K size j k = 0) := fun i j k => lexI_tra _ _ _ (by rw [celK_len, celK_len]) (by rw [celK_len, celK_len])
 refine ⟨fun i _ => ?_, fun i j _ _ hij => ?_, fun i j k _ _ _ a b => ?_⟩
 ·have : cmpK K size i i = 0 := lexI_self _
  unfold lesK
  cases down <;> simp [this]
 ·have h1 := h3 i j
  have h2 := ht i j
  have hlt : decide (i < j) = !decide (j < i) := by
   by_cases h : i < j
   ·rw [decide_eq_true h, decide_eq_false (by omega)]; rfl
   ·rw [decide_eq_false h, decide_eq_true (by omega)]; rfl
  unfold lesK
  cases down <;> simp only [h2, if_true, Bool.false_eq_true, if_false] <;> rcases h1 with e | e | e <;> rw [e] <;> first | (simp; done) | (simp only [Int.neg_zero, Int.lt_irrefl, false_or, true_and]; exact hlt)
 ·unfold lesK at a b ⊢
  cases down
  ·simp only [Bool.false_eq_true, if_false, decide_eq_true_eq] at a b ⊢
   obtain ⟨p, q⟩ := tr i j k (by omega) (by omega)
   by_cases e : cmpK K size i k = 0
   ·obtain ⟨e1, e2⟩ := q e; omega
   ·omega
  ·simp only [if_true, decide_eq_true_eq] at a b ⊢
   have hij := ht i j
   have hjk := ht j k
   have hik := ht i k
   obtain ⟨p, q⟩ := tr k j i (by omega) (by omega)
   by_cases e : cmpK K size k i = 0
   ·obtain ⟨e1, e2⟩ := q e; omega
   ·omega
theorem cmpK_turn (K : Nat → Int) (size i k : Nat) : cmpK K size i k = - cmpK K size k i := lexI_turn _ _
end Go.Proofs.YtbdhibcbpgjbmaaGreatDoor

/- Merged: OrM, OrN, OrP, OrQ, OrA, OrB, OrR, OrE, OrS, OrF. -/
import Derived.Test.YtbdbpamefkgelaaGreatDoorMgPi1
import Derived.Test.YtbdbpamefkgelaaGreatDoorMgRe1
import Derived.Test.YtbdbpamefkgelaaGreatDoorMgVe1
import Derived.Test.YtbdbpamefkgelaaGreatDoorMgFl1
import Derived.Test.YtbdbpamefkgelaaGreatDoorMgVa1
/- Layer 16, plain: a strict total order of the first n numbers: how many are ahead of each, the one list in order. -/
namespace Go.Proofs.YtbdbpamefkgelaaGreatDoor
set_option maxRecDepth 100000
set_option linter.unusedVariables false

/-- Of any two of the first n numbers just one is ahead; what is ahead of what is ahead is ahead. -/
structure TotO (n : Nat) (lt : Nat → Nat → Bool) : Prop where
  irr : ∀ i, i < n → lt i i = false
  tot : ∀ i j, i < n → j < n → i ≠ j → lt i j = !lt j i
  tra : ∀ i j k, i < n → j < n → k < n → lt i j = true → lt j k = true → lt i k = true
/-- How many are ahead. -/
def rkO (n : Nat) (lt : Nat → Nat → Bool) (i : Nat) : Nat := ((List.range n).filter (fun k => lt k i)).length
theorem filter_le_of {l : List Nat} {p q : Nat → Bool} (h : ∀ x ∈ l, p x = true → q x = true) : (l.filter p).length ≤ (l.filter q).length := by
  induction l with
  | nil => exact Nat.le_refl _
  | cons a l ih =>
    have ih2 := ih (fun x hx => h x (List.mem_cons_of_mem _ hx))
    have ha := h a (List.mem_cons_self ..)
    by_cases hp : p a = true
    · rw [List.filter_cons_of_pos hp, List.filter_cons_of_pos (ha hp)]; simp; exact ih2
    · rw [List.filter_cons_of_neg hp]
      by_cases hq : q a = true
      · rw [List.filter_cons_of_pos hq]; simp; omega
      · rw [List.filter_cons_of_neg hq]; exact ih2
theorem filter_lt_of {l : List Nat} {p q : Nat → Bool} (h : ∀ x ∈ l, p x = true → q x = true) {y : Nat} (hy : y ∈ l) (h1 : p y = false) (h2 : q y = true) : (l.filter p).length < (l.filter q).length := by
  induction l with
  | nil => cases hy
  | cons a l ih =>
    have h' : ∀ x ∈ l, p x = true → q x = true := fun x hx => h x (List.mem_cons_of_mem _ hx)
    have hle := filter_le_of h'
    have ha := h a (List.mem_cons_self ..)
    by_cases hya : y = a
    · subst hya
      rw [List.filter_cons_of_neg (by simp [h1]), List.filter_cons_of_pos h2]; simp; omega
    · have ih2 := ih h' (by rcases List.mem_cons.1 hy with e | e; exact absurd e hya; exact e)
      by_cases hp : p a = true
      · rw [List.filter_cons_of_pos hp, List.filter_cons_of_pos (ha hp)]; simp; exact ih2
      · rw [List.filter_cons_of_neg hp]
        by_cases hq : q a = true
        · rw [List.filter_cons_of_pos hq]; simp; omega
        · rw [List.filter_cons_of_neg hq]; exact ih2
theorem rkO_lt {n : Nat} {lt : Nat → Nat → Bool} (h : TotO n lt) {i j : Nat} (hi : i < n) (hj : j < n) (hij : lt i j = true) : rkO n lt i < rkO n lt j :=
  filter_lt_of (fun x hx hxi => h.tra x i j (List.mem_range.1 hx) hi hj hxi hij) (List.mem_range.2 hi) (h.irr i hi) hij
theorem rkO_bd {n : Nat} {lt : Nat → Nat → Bool} (h : TotO n lt) {i : Nat} (hi : i < n) : rkO n lt i < n := by
  have := filter_lt_of (l := List.range n) (p := fun k => lt k i) (q := fun _ => true) (fun _ _ _ => rfl) (List.mem_range.2 hi) (h.irr i hi) rfl
  rw [List.filter_eq_self.2 (fun _ _ => rfl), List.length_range] at this
  exact this
theorem rkO_inj {n : Nat} {lt : Nat → Nat → Bool} (h : TotO n lt) {i j : Nat} (hi : i < n) (hj : j < n) (e : rkO n lt i = rkO n lt j) : i = j := by
  by_cases hij : i = j
  · exact hij
  · have ht := h.tot i j hi hj hij
    cases hl : lt i j
    · rw [hl] at ht
      have : lt j i = true := by cases hx : lt j i <;> simp [hx] at ht ⊢
      have := rkO_lt h hj hi this; omega
    · have := rkO_lt h hi hj hl; omega
theorem rkO_iff {n : Nat} {lt : Nat → Nat → Bool} (h : TotO n lt) {i j : Nat} (hi : i < n) (hj : j < n) : lt i j = true ↔ rkO n lt i < rkO n lt j := by
  constructor
  · exact rkO_lt h hi hj
  · intro hr
    by_cases hij : i = j
    · subst hij; omega
    · have ht := h.tot i j hi hj hij
      cases hl : lt j i
      · rw [ht, hl]; rfl
      · have := rkO_lt h hj hi hl; omega
/-- The one list in order: at the place that tells how many are ahead stands the number. -/
def IsGr (n : Nat) (lt : Nat → Nat → Bool) (g : List Nat) : Prop := g.length = n ∧ ∀ i, i < n → g[rkO n lt i]? = some i
/-- A list of all of them, each once, each ahead of the next one. -/
def IsSo (n : Nat) (lt : Nat → Nat → Bool) (a : List Nat) : Prop := a.length = n ∧ (∀ x ∈ a, x < n) ∧ a.Nodup ∧ ∀ r, r + 1 < n → lt (a.getD r 0) (a.getD (r + 1) 0) = true
/-- Different numbers below n are n at most. -/
theorem nodup_le : ∀ (n : Nat) (l : List Nat), l.Nodup → (∀ x ∈ l, x < n) → l.length ≤ n := by
  intro n
  induction n with
  | zero =>
    intro l _ hb
    cases l with
    | nil => exact Nat.le_refl _
    | cons a l => exact absurd (hb a (List.mem_cons_self ..)) (Nat.not_lt_zero _)
  | succ n ih =>
    intro l hn hb
    by_cases hm : n ∈ l
    · have h1 := ih (l.erase n) (hn.erase n) (fun x hx => by
        have h2 := (List.Nodup.mem_erase_iff hn).1 hx
        have := hb x h2.2
        have := h2.1
        omega)
      rw [List.length_erase_of_mem hm] at h1
      omega
    · have h1 := ih l hn (fun x hx => by
        have := hb x hx
        have : x ≠ n := fun e => hm (e ▸ hx)
        omega)
      omega
/-- n different numbers below n are all of them. -/
theorem full_of {n : Nat} {l : List Nat} (hn : l.Nodup) (hl : l.length = n) (hb : ∀ x ∈ l, x < n) : ∀ y, y < n → y ∈ l := by
  intro y hy
  refine Classical.byContradiction fun hm => ?_
  have := nodup_le n (y :: l) (List.nodup_cons.2 ⟨hm, hn⟩) (fun x hx => by
    rcases List.mem_cons.1 hx with rfl | h
    · exact hy
    · exact hb x h)
  rw [List.length_cons, hl] at this
  omega
theorem so_rank {n : Nat} {lt : Nat → Nat → Bool} (h : TotO n lt) {a : List Nat} (ha : IsSo n lt a) : ∀ r, r < n → rkO n lt (a.getD r 0) = r := by
  obtain ⟨h1, h2, h3, h4⟩ := ha
  have hget : ∀ r, r < n → a.getD r 0 < n := fun r hr => h2 _ (by rw [List.getD_eq_getElem?_getD, List.getElem?_eq_getElem (by omega)]; exact List.getElem_mem _)
  have hmono : ∀ r, r + 1 < n → rkO n lt (a.getD r 0) < rkO n lt (a.getD (r + 1) 0) := fun r hr => rkO_lt h (hget r (by omega)) (hget (r + 1) hr) (h4 r hr)
  -- a strictly rising list of n numbers below n
  have hge : ∀ r, r < n → r ≤ rkO n lt (a.getD r 0) := by
    intro r
    induction r with
    | zero => intro _; exact Nat.zero_le _
    | succ r ih => intro hr; have := ih (by omega); have := hmono r hr; omega
  have hle : ∀ s r, r < n → n - 1 - r = s → rkO n lt (a.getD r 0) + s ≤ n - 1 := by
    intro s
    induction s with
    | zero => intro r hr _; have := rkO_bd h (hget r hr); omega
    | succ s ih => intro r hr hs; have := ih (r + 1) (by omega) (by omega); have := hmono r (by omega); omega
  intro r hr
  have := hge r hr
  have := hle (n - 1 - r) r hr rfl
  omega
/-- What is in order is the one list. -/
theorem so_gr {n : Nat} {lt : Nat → Nat → Bool} (h : TotO n lt) {a g : List Nat} (ha : IsSo n lt a) (hg : IsGr n lt g) : a = g := by
  apply List.ext_getElem?
  intro r
  by_cases hr : r < n
  · have e := so_rank h ha r hr
    have hb : a.getD r 0 < n := ha.2.1 _ (by rw [List.getD_eq_getElem?_getD, List.getElem?_eq_getElem (by have := ha.1; omega)]; exact List.getElem_mem _)
    have h2 := hg.2 _ hb
    rw [e] at h2
    rw [h2, List.getElem?_eq_getElem (by have := ha.1; omega), List.getD_eq_getElem?_getD, List.getElem?_eq_getElem (by have := ha.1; omega)]
    rfl
  · rw [List.getElem?_eq_none (by have := ha.1; omega), List.getElem?_eq_none (by have := hg.1; omega)]
/-- The one list is in order. -/
theorem gr_so {n : Nat} {lt : Nat → Nat → Bool} (h : TotO n lt) {g : List Nat} (hg : IsGr n lt g) : IsSo n lt g := by
  obtain ⟨h1, h2⟩ := hg
  -- each place is a rank: the ranks are n different numbers below n
  have hrk : ∀ r, r < n → ∃ i, i < n ∧ rkO n lt i = r := by
    intro r hr
    have hnd : ((List.range n).map (rkO n lt)).Nodup := by
      rw [List.nodup_iff_pairwise_ne, List.pairwise_map]
      refine List.Pairwise.imp_of_mem (fun hx hy hne e => hne (rkO_inj h (List.mem_range.1 hx) (List.mem_range.1 hy) e)) (List.nodup_iff_pairwise_ne.1 List.nodup_range)
    have := full_of (n := n) hnd (by simp) (fun x hx => by obtain ⟨i, hi, rfl⟩ := List.mem_map.1 hx; exact rkO_bd h (List.mem_range.1 hi)) r hr
    obtain ⟨i, hi, e⟩ := List.mem_map.1 this
    exact ⟨i, List.mem_range.1 hi, e⟩
  have hat : ∀ r, r < n → g.getD r 0 < n ∧ rkO n lt (g.getD r 0) = r := by
    intro r hr
    obtain ⟨i, hi, rfl⟩ := hrk r hr
    rw [List.getD_eq_getElem?_getD, h2 i hi]
    exact ⟨hi, rfl⟩
  refine ⟨h1, ?_, ?_, ?_⟩
  · intro x hx
    obtain ⟨r, hr, rfl⟩ := List.getElem_of_mem hx
    have := (hat r (by omega)).1
    rw [List.getD_eq_getElem?_getD, List.getElem?_eq_getElem hr] at this
    exact this
  · rw [List.nodup_iff_pairwise_ne, List.pairwise_iff_getElem]
    intro r s hr hs hrs e
    have a1 := (hat r (by omega)).2
    have a2 := (hat s (by omega)).2
    rw [List.getD_eq_getElem?_getD, List.getElem?_eq_getElem hr] at a1
    rw [List.getD_eq_getElem?_getD, List.getElem?_eq_getElem hs] at a2
    simp only [Option.getD_some] at a1 a2
    rw [e] at a1; omega
  · intro r hr
    obtain ⟨b1, c1⟩ := hat r (by omega)
    obtain ⟨b2, c2⟩ := hat (r + 1) hr
    exact (rkO_iff h b1 b2).2 (by omega)
theorem so_iff {n : Nat} {lt : Nat → Nat → Bool} (h : TotO n lt) {a g : List Nat} (hg : IsGr n lt g) : IsSo n lt a ↔ a = g := ⟨fun ha => so_gr h ha hg, fun e => e ▸ gr_so h hg⟩
end Go.Proofs.YtbdbpamefkgelaaGreatDoor

/- Layer 16, plain: cells of keys, the first difference; cells and their places are in a strict total order. -/
namespace Go.Proofs.YtbdbpamefkgelaaGreatDoor
set_option maxRecDepth 100000
set_option linter.unusedVariables false

/-- How two lists of keys stand: by their first difference. -/
def lexI : List Int → List Int → Int
  | x :: l, y :: m => if x < y then -1 else if y < x then 1 else lexI l m
  | _, _ => 0
theorem lexI_self (a : List Int) : lexI a a = 0 := by
  induction a with
  | nil => rfl
  | cons x a ih => simp only [lexI, Int.lt_irrefl, if_false]; exact ih
theorem lexI_turn : ∀ a b : List Int, lexI b a = - lexI a b
  | [], [] => rfl
  | [], _ :: _ => rfl
  | _ :: _, [] => rfl
  | x :: a, y :: b => by
    simp only [lexI]
    by_cases h1 : x < y
    · rw [if_neg (show ¬ y < x by omega), if_pos h1, if_pos h1]; rfl
    · by_cases h2 : y < x
      · rw [if_pos h2, if_neg h1, if_pos h2]
      · rw [if_neg h2, if_neg h1, if_neg h1, if_neg h2]; exact lexI_turn a b
theorem lexI_cases : ∀ a b : List Int, lexI a b = -1 ∨ lexI a b = 0 ∨ lexI a b = 1
  | [], [] => Or.inr (Or.inl rfl)
  | [], _ :: _ => Or.inr (Or.inl rfl)
  | _ :: _, [] => Or.inr (Or.inl rfl)
  | x :: a, y :: b => by
    simp only [lexI]
    split
    · exact Or.inl rfl
    · split
      · exact Or.inr (Or.inr rfl)
      · exact lexI_cases a b
theorem lexI_tra : ∀ a b c : List Int, a.length = b.length → b.length = c.length → lexI a b ≤ 0 → lexI b c ≤ 0 → lexI a c ≤ 0 ∧ (lexI a c = 0 → lexI a b = 0 ∧ lexI b c = 0)
  | [], [], [], _, _, _, _ => ⟨Int.le_refl _, fun _ => ⟨rfl, rfl⟩⟩
  | [], [], _ :: _, _, h, _, _ => by simp at h
  | [], _ :: _, _, h, _, _, _ => by simp at h
  | _ :: _, [], _, h, _, _, _ => by simp at h
  | _ :: _, _ :: _, [], _, h, _, _ => by simp at h
  | x :: a, y :: b, z :: c, h1, h2, e1, e2 => by
    simp only [lexI] at e1 e2 ⊢
    by_cases p1 : x < y
    · by_cases p2 : y < z
      · rw [if_pos (show x < z by omega)]; exact ⟨by omega, fun e => by cases e⟩
      · by_cases p3 : z < y
        · rw [if_neg p2, if_pos p3] at e2; omega
        · rw [if_pos (show x < z by omega)]; exact ⟨by omega, fun e => by cases e⟩
    · by_cases p4 : y < x
      · rw [if_neg p1, if_pos p4] at e1; omega
      · rw [if_neg p1, if_neg p4] at e1 ⊢
        by_cases p2 : y < z
        · rw [if_pos (show x < z by omega)]; exact ⟨by omega, fun e => by cases e⟩
        · by_cases p3 : z < y
          · rw [if_neg p2, if_pos p3] at e2; omega
          · rw [if_neg p2, if_neg p3] at e2 ⊢
            rw [if_neg (show ¬ x < z by omega), if_neg (show ¬ z < x by omega)]
            exact lexI_tra a b c (by simpa using h1) (by simpa using h2) e1 e2
/-- Up to a place they are the same. -/
theorem lexI_drop {a b : List Int} : ∀ (j : Nat), j ≤ a.length → j ≤ b.length → (∀ i, i < j → a[i]? = b[i]?) → lexI a b = lexI (a.drop j) (b.drop j) := by
  intro j
  induction j generalizing a b with
  | zero => intro _ _ _; rfl
  | succ j ih =>
    intro h1 h2 h3
    cases a with
    | nil => simp at h1
    | cons x a =>
      cases b with
      | nil => simp at h2
      | cons y b =>
        have e := h3 0 (by omega)
        simp only [List.getElem?_cons_zero, Option.some.injEq] at e
        subst e
        simp only [lexI, Int.lt_irrefl, if_false, List.drop_succ_cons]
        exact ih (by simpa using h1) (by simpa using h2) (fun i hi => by have := h3 (i + 1) (by omega); simpa using this)
theorem lexI_hit {a b : List Int} {j : Nat} {x y : Int} (ha : a[j]? = some x) (hb : b[j]? = some y) (h : ∀ i, i < j → a[i]? = b[i]?) : lexI a b = if x < y then -1 else if y < x then 1 else lexI (a.drop (j + 1)) (b.drop (j + 1)) := by
  obtain ⟨h1, e1⟩ := List.getElem?_eq_some_iff.1 ha
  obtain ⟨h2, e2⟩ := List.getElem?_eq_some_iff.1 hb
  rw [lexI_drop j (by omega) (by omega) h, List.drop_eq_getElem_cons h1, List.drop_eq_getElem_cons h2, e1, e2]
  rfl
theorem lexI_all {a b : List Int} (hl : a.length = b.length) (h : ∀ i, i < a.length → a[i]? = b[i]?) : lexI a b = 0 := by
  have : a = b := List.ext_getElem? fun i => by
    by_cases hi : i < a.length
    · exact h i hi
    · rw [List.getElem?_eq_none (by omega), List.getElem?_eq_none (by omega)]
  rw [this]; exact lexI_self b

/-- Cell i of a row of keys. -/
def celK (K : Nat → Int) (size i : Nat) : List Int := (List.range size).map fun j => K (i * size + j)
theorem celK_len (K : Nat → Int) (size i : Nat) : (celK K size i).length = size := by simp [celK]
theorem celK_get {K : Nat → Int} {size i j : Nat} (h : j < size) : (celK K size i)[j]? = some (K (i * size + j)) := by simp [celK, h]
def cmpK (K : Nat → Int) (size i k : Nat) : Int := lexI (celK K size i) (celK K size k)
/-- Which one is ahead: upwards or downwards; of alike ones the first. -/
def lesK (K : Nat → Int) (size : Nat) (down : Bool) (i k : Nat) : Bool := let c := if down then - cmpK K size i k else cmpK K size i k
  decide (c < 0 ∨ c = 0 ∧ i < k)
theorem lesK_tot (K : Nat → Int) (size : Nat) (down : Bool) (n : Nat) : TotO n (lesK K size down) := by
  have ht : ∀ i k, cmpK K size k i = - cmpK K size i k := fun i k => lexI_turn _ _
  have h3 : ∀ i k, cmpK K size i k = -1 ∨ cmpK K size i k = 0 ∨ cmpK K size i k = 1 := fun i k => lexI_cases _ _
  have tr : ∀ i j k, cmpK K size i j ≤ 0 → cmpK K size j k ≤ 0 → cmpK K size i k ≤ 0 ∧ (cmpK K size i k = 0 → cmpK K size i j = 0 ∧ cmpK K size j k = 0) := fun i j k => lexI_tra _ _ _ (by rw [celK_len, celK_len]) (by rw [celK_len, celK_len])
  refine ⟨fun i _ => ?_, fun i j _ _ hij => ?_, fun i j k _ _ _ a b => ?_⟩
  · have : cmpK K size i i = 0 := lexI_self _
    unfold lesK
    cases down <;> simp [this]
  · have h1 := h3 i j
    have h2 := ht i j
    have hlt : decide (i < j) = !decide (j < i) := by
      by_cases h : i < j
      · rw [decide_eq_true h, decide_eq_false (by omega)]; rfl
      · rw [decide_eq_false h, decide_eq_true (by omega)]; rfl
    unfold lesK
    cases down <;> simp only [h2, if_true, Bool.false_eq_true, if_false] <;> rcases h1 with e | e | e <;> rw [e] <;> first | (simp; done) | (simp only [Int.neg_zero, Int.lt_irrefl, false_or, true_and]; exact hlt)
  · unfold lesK at a b ⊢
    cases down
    · simp only [Bool.false_eq_true, if_false, decide_eq_true_eq] at a b ⊢
      obtain ⟨p, q⟩ := tr i j k (by omega) (by omega)
      by_cases e : cmpK K size i k = 0
      · obtain ⟨e1, e2⟩ := q e; omega
      · omega
    · simp only [if_true, decide_eq_true_eq] at a b ⊢
      have hij := ht i j
      have hjk := ht j k
      have hik := ht i k
      obtain ⟨p, q⟩ := tr k j i (by omega) (by omega)
      by_cases e : cmpK K size k i = 0
      · obtain ⟨e1, e2⟩ := q e; omega
      · omega
end Go.Proofs.YtbdbpamefkgelaaGreatDoor

/- Layer 16, plain: the keys of a vector's elements, how they stand. -/
namespace Go.Proofs.YtbdbpamefkgelaaGreatDoor
set_option maxRecDepth 100000
open Go.RowKit Fl
set_option linter.unusedVariables false

/-- How two keys stand. -/
def cmpI (x y : Int) : Int := if x < y then -1 else if y < x then 1 else 0
theorem cmpI_lt {x y : Int} (h : x < y) : cmpI x y = -1 := if_pos h
theorem cmpI_gt {x y : Int} (h : y < x) : cmpI x y = 1 := by unfold cmpI; rw [if_neg (by omega), if_pos h]
theorem cmpI_eq {x y : Int} (h : x = y) : cmpI x y = 0 := by unfold cmpI; rw [if_neg (by omega), if_neg (by omega)]
/-- An element's key: a number's value, a character's code point. -/
def keyV (A : VV) (k : Nat) : Int := if A.cls = 0 then V (atI A.nums 0 (k : Int)) else atI A.text 0 (k : Int)
/-- Are two vectors of one class that has an order? -/
def orB (A B : VV) : Bool := decide (A.cls = B.cls ∧ A.cls < 2)
def orC (A : VV) (i : Nat) (B : VV) (k : Nat) : Int := if orB A B then cmpI (keyV A i) (keyV B k) else 0
theorem atI_memN {l : List Nat} {k : Nat} (h : k < l.length) : atI l 0 (k : Int) ∈ l := by rw [atI_nat h]; exact List.getElem_mem _
end Go.Proofs.YtbdbpamefkgelaaGreatDoor

/- Layer 16, plain: places, each once; where each stands. -/
namespace Go.Proofs.YtbdbpamefkgelaaGreatDoor
set_option maxRecDepth 100000
open Go.RowKit Fl
set_option linter.unusedVariables false

theorem ints_set (l : List Int) (k : Nat) (x : Int) : (ints l).set k (.int .i64 x) = ints (l.set k x) := by unfold ints; rw [List.map_set]
theorem ints_rep (n : Nat) (x : Int) : ints (List.replicate n x) = List.replicate n (.int .i64 x) := by unfold ints; rw [List.map_replicate]
end Go.Proofs.YtbdbpamefkgelaaGreatDoor

/- Layer 16, walked: isNaN, cmp.Compare (of floats, of runes), exists, Has, count, Compare. -/
namespace Go.Proofs.YtbdbpamefkgelaaGreatDoor
set_option maxRecDepth 100000
open Go.RowKit Fl
set_option linter.unusedVariables false

theorem nanF_calls (x : Nat) (w : World) (h : Fnt x) : Calls Tryz.prog 153 #[.float .f64 x] w fun e w' => e = .returned (.bool false) ∧ w = w' := by
  have hc : FloatKind.f64.format.order x x = some .eq := ord_eq h h rfl
  clear h
  go_enter Tryz.func153, Tryz.ntmps153
  go_wp2
  go_ret
  exact ⟨rfl, rfl⟩
theorem nanR_calls (x : Int) (w : World) : Calls Tryz.prog 152 #[.int .i32 x] w fun e w' => e = .returned (.bool false) ∧ w = w' := by
  go_enter Tryz.func152, Tryz.ntmps152
  go_wp2
  go_ret
  exact ⟨rfl, rfl⟩
theorem cmpF_calls (a b : Nat) (w : World) (ha : Fnt a) (hb : Fnt b) : Calls Tryz.prog 141 #[.float .f64 a, .float .f64 b] w fun e w' => e = .returned (.int .i64 (cmpI (V a) (V b))) ∧ w = w' := by
  have HA := Lib.hid ha
  have HB := Lib.hid hb
  rcases ord_both ha hb with ⟨hv, o1, o2⟩ | ⟨hv, o1, o2⟩ | ⟨hv, o1, o2⟩
  · rw [cmpI_lt hv]
    clear hv ha hb
    go_enter Tryz.func141, Tryz.ntmps141
    go_wp2_with (first | ((with_reducible refine (nanF_calls _ _ HA.out).mono ?_); rintro e w' ⟨rfl, rfl⟩) | ((with_reducible refine (nanF_calls _ _ HB.out).mono ?_); rintro e w' ⟨rfl, rfl⟩))
    go_ret
    exact ⟨rfl, rfl⟩
  · rw [cmpI_eq hv]
    clear hv ha hb
    go_enter Tryz.func141, Tryz.ntmps141
    go_wp2_with (first | ((with_reducible refine (nanF_calls _ _ HA.out).mono ?_); rintro e w' ⟨rfl, rfl⟩) | ((with_reducible refine (nanF_calls _ _ HB.out).mono ?_); rintro e w' ⟨rfl, rfl⟩))
    go_ret
    exact ⟨rfl, rfl⟩
  · rw [cmpI_gt hv]
    clear hv ha hb
    go_enter Tryz.func141, Tryz.ntmps141
    go_wp2_with (first | ((with_reducible refine (nanF_calls _ _ HA.out).mono ?_); rintro e w' ⟨rfl, rfl⟩) | ((with_reducible refine (nanF_calls _ _ HB.out).mono ?_); rintro e w' ⟨rfl, rfl⟩))
    go_ret
    exact ⟨rfl, rfl⟩
theorem cmpR_calls (a b : Int) (w : World) : Calls Tryz.prog 140 #[.int .i32 a, .int .i32 b] w fun e w' => e = .returned (.int .i64 (cmpI a b)) ∧ w = w' := by
  rcases Int.lt_trichotomy a b with hv | hv | hv
  · rw [cmpI_lt hv]
    go_enter Tryz.func140, Tryz.ntmps140
    go_wp2_with (refine (nanR_calls _ _).mono ?_; rintro e w' ⟨rfl, rfl⟩)
    go_ret
    exact ⟨rfl, rfl⟩
  · rw [cmpI_eq hv]
    have h1 : ¬ a < b := by omega
    have h2 : ¬ b < a := by omega
    clear hv
    go_enter Tryz.func140, Tryz.ntmps140
    go_wp2_with (refine (nanR_calls _ _).mono ?_; rintro e w' ⟨rfl, rfl⟩)
    go_ret
    exact ⟨rfl, rfl⟩
  · rw [cmpI_gt hv]
    have h1 : ¬ a < b := by omega
    go_enter Tryz.func140, Tryz.ntmps140
    go_wp2_with (refine (nanR_calls _ _).mono ?_; rintro e w' ⟨rfl, rfl⟩)
    go_ret
    exact ⟨rfl, rfl⟩
theorem oex_calls (n i : Int) (w : World) : Calls Tryz.prog 104 #[.int .i64 n, .int .i64 i] w fun e w' => e = .returned (.bool (decide (0 ≤ i) && decide (i < n))) ∧ w = w' := by
  by_cases h : 0 ≤ i
  · rw [decide_eq_true h]
    go_enter Tryz.func104, Tryz.ntmps104
    go_wp2
    go_ret
    exact ⟨rfl, rfl⟩
  · rw [decide_eq_false h]
    go_enter Tryz.func104, Tryz.ntmps104
    go_wp2
    go_ret
    exact ⟨rfl, rfl⟩
theorem oex_yes {n i : Nat} (w : World) (h : i < n) : Calls Tryz.prog 104 #[.int .i64 (n : Int), .int .i64 (i : Int)] w fun e w' => e = .returned (.bool true) ∧ w = w' := by
  have e : (decide ((0 : Int) ≤ (i : Int)) && decide ((i : Int) < (n : Int))) = true := by simp; omega
  rw [← e]; exact oex_calls n i w
theorem ohas_calls (c : Int) (w : World) : Calls Tryz.prog 36 #[.int .i64 c] w fun e w' => e = .returned (.bool (decide (c = 0 ∨ c = 1))) ∧ w = w' := by
  by_cases h : c = 0
  · subst h
    go_enter Tryz.func36, Tryz.ntmps36
    go_wp2
    go_ret
    exact ⟨rfl, rfl⟩
  · by_cases h1 : c = 1
    · subst h1
      go_enter Tryz.func36, Tryz.ntmps36
      go_wp2
      go_ret
      exact ⟨rfl, rfl⟩
    · have e : decide (c = 0 ∨ c = 1) = false := by simp [h, h1]
      rw [e]
      have e0 : (c == 0) = false := by simpa using h
      have e1 : (c == 1) = false := by simpa using h1
      clear e h h1
      go_enter Tryz.func36, Tryz.ntmps36
      go_wp2
      go_ret
      exact ⟨rfl, rfl⟩
theorem ocount_calls {ok : Nat → Prop} (u : Value) (A : VV) (size : Nat) (w : World) (h : IsV w ok u A) (hs : 0 < size) (hm : size ≤ 1048576) (hl : A.len ≤ 1048576) :
    Calls Tryz.prog 103 #[.agg #[u], .int .i64 (size : Int)] w fun e w' => e = .returned (.int .i64 ((A.len / size : Nat) : Int)) ∧ Below w.heap.size w w' := by
  have hsu := h.store
  obtain ⟨W1, hW1⟩ : ∃ W1, W1 = w.alloc (.cells #[u] 36) := ⟨_, rfl⟩
  have HB := Lib.hid (show Below w.heap.size w W1 by rw [hW1]; exact below_new _ _)
  have HA := Lib.hid (show At1 W1 w.heap.size u by rw [hW1]; exact At1.new w _ _)
  have HU := Lib.hid (show IsV W1 ok u A from h.grow HB.out)
  have hfold := hW1.symm
  clear h hW1
  have c0 := HA.out.2.1
  obtain ⟨n, hn⟩ : ∃ n, A.len = n := ⟨_, rfl⟩
  obtain ⟨Q, hQ⟩ : ∃ Q, n / size = Q := ⟨_, rfl⟩
  have HN := Lib.hid hn
  rw [hn, hQ]
  have hQm : Q ≤ n := by rw [← hQ]; exact Nat.div_le_self _ _
  rw [hn] at hl
  have d1 : (n : Int) / (size : Int) = (Q : Int) := by rw [← hQ]; rfl
  have d2 : (n : Int).tdiv (size : Int) = (Q : Int) := by rw [← hQ]; rfl
  have w1 : IntKind.i64.wrap (Q : Int) = (Q : Int) := IntWalk.i64_in _ (by omega)
  have hz1 : ¬ (size : Int) = 0 := by omega
  have hz2 : ¬ size = 0 := by omega
  clear hn hQ hQm
  go_enter Tryz.func103, Tryz.ntmps103
  go_wp2_with fail
  clear hfold
  refine (vlen_calls _ A _ HU.out).mono ?_
  rintro e W2 ⟨rfl, hB⟩
  rw [HN.out]
  clear c0
  replace HB := Lib.hid (HB.out.trans (hB.mono HB.out.size))
  clear hB
  go_wp2
  go_ret
  exact ⟨rfl, HB.out⟩
set_option maxHeartbeats 4000000 in
theorem ocompare_calls {okA okB : Nat → Prop} (uA uB : Value) (A B : VV) (i k : Nat) (w : World) (hA : IsV w okA uA A) (hB' : IsV w okB uB B) (fA : ∀ x ∈ A.nums, Fnt x) (fB : ∀ x ∈ B.nums, Fnt x) (hi : i < A.len) (hk : k < B.len) :
    Calls Tryz.prog 105 #[.agg #[uA], .int .i64 (i : Int), .agg #[uB], .int .i64 (k : Int)] w fun e w' => e = .returned (.tuple #[.int .i64 (orC A i B k), .bool (orB A B)]) ∧ Below w.heap.size w w' := by
  have hsa := hA.store
  have hsb := hB'.store
  obtain ⟨W1, hW1⟩ : ∃ W1, W1 = (w.alloc (.cells #[uA] 36)).alloc (.cells #[uB] 36) := ⟨_, rfl⟩
  have HB := Lib.hid (show Below w.heap.size w W1 by rw [hW1]; exact (below_new _ _).alloc (by simp) _)
  have HA := Lib.hid (show At1 W1 w.heap.size uA by rw [hW1]; exact (At1.new w _ _).below (below_new _ _))
  have HB2 := Lib.hid (show At1 W1 (w.heap.size + 1) uB by rw [hW1]; have := (At1.new (w.alloc (.cells #[uA] 36)) uB 36); simpa using this)
  have HU := Lib.hid (show IsV W1 okA uA A from hA.grow HB.out)
  have HU2 := Lib.hid (show IsV W1 okB uB B from hB'.grow HB.out)
  have HFA := Lib.hid fA
  have HFB := Lib.hid fB
  have HI := Lib.hid hi
  have HK := Lib.hid hk
  obtain ⟨ca, hca⟩ : ∃ ca, A.cls = ca := ⟨_, rfl⟩
  obtain ⟨cb, hcb⟩ : ∃ cb, B.cls = cb := ⟨_, rfl⟩
  have HCA := Lib.hid hca
  have HCB := Lib.hid hcb
  have HC3 := Lib.hid (show ca = 0 ∨ ca = 1 ∨ ca = 2 by rw [← hca]; exact VV.cls_cases _)
  obtain ⟨na, hna⟩ : ∃ na, A.len = na := ⟨_, rfl⟩
  obtain ⟨nb, hnb⟩ : ∃ nb, B.len = nb := ⟨_, rfl⟩
  have HNA := Lib.hid hna
  have HNB := Lib.hid hnb
  have hfold := hW1.symm
  clear hA hB' hW1 fA fB hi hk hca hcb hna hnb
  by_cases hne : ca = cb
  rotate_left
  · have e1 : orB A B = false := by unfold orB; rw [HCA.out, HCB.out]; exact decide_eq_false (fun h => hne h.1)
    have e2 : orC A i B k = 0 := by unfold orC; rw [e1]; rfl
    rw [e1, e2]
    clear e1 e2
    have hce : (cb != ca) = true := by simp; omega
    clear hne
    have cHA0 := HA.out.2.1
    have cHB20 := HB2.out.2.1
    go_enter Tryz.func105, Tryz.ntmps105
    go_wp2_with fail
    clear hfold
    refine (class_calls _ A _ HU.out).mono ?_
    rintro e W11 ⟨rfl, hB⟩
    clear cHA0 cHB20
    replace HA := Lib.hid (HA.out.below hB)
    replace HB2 := Lib.hid (HB2.out.below hB)
    replace HB := Lib.hid (HB.out.trans (hB.mono HB.out.size))
    replace HU := Lib.hid (HU.out.grow hB)
    replace HU2 := Lib.hid (HU2.out.grow hB)
    rw [HCA.out]
    clear hB
    have cHA0 := HA.out.2.1
    have cHB20 := HB2.out.2.1
    go_wp2_with fail
    refine (class_calls _ B _ HU2.out).mono ?_
    rintro e W12 ⟨rfl, hB⟩
    clear cHA0 cHB20
    replace HA := Lib.hid (HA.out.below hB)
    replace HB2 := Lib.hid (HB2.out.below hB)
    replace HB := Lib.hid (HB.out.trans (hB.mono HB.out.size))
    replace HU := Lib.hid (HU.out.grow hB)
    replace HU2 := Lib.hid (HU2.out.grow hB)
    rw [HCB.out]
    clear hB
    have cHA0 := HA.out.2.1
    have cHB20 := HB2.out.2.1
    go_wp2_with fail
    go_ret2
    exact ⟨rfl, HB.out⟩
  subst hne
  rcases HC3.out with rfl | rfl | rfl
  · have e1 : orB A B = true := by unfold orB; rw [HCA.out, HCB.out]; rfl
    have HKA := Lib.hid (show keyV A i = V (atI A.nums 0 (i : Int)) by unfold keyV; rw [if_pos HCA.out])
    have HKB := Lib.hid (show keyV B k = V (atI B.nums 0 (k : Int)) by unfold keyV; rw [if_pos HCB.out])
    obtain ⟨x, hx⟩ : ∃ x, atI A.nums 0 (i : Int) = x := ⟨_, rfl⟩
    obtain ⟨y, hy⟩ : ∃ y, atI B.nums 0 (k : Int) = y := ⟨_, rfl⟩
    have HX := Lib.hid hx
    have HY := Lib.hid hy
    have HFX := Lib.hid (show Fnt x by rw [← hx]; exact HFA.out _ (atI_memN (by rw [VV.nums_len0 HCA.out]; exact HI.out)))
    have HFY := Lib.hid (show Fnt y by rw [← hy]; exact HFB.out _ (atI_memN (by rw [VV.nums_len0 HCB.out]; exact HK.out)))
    clear hx hy
    have e2 : orC A i B k = cmpI (V x) (V y) := by unfold orC; rw [e1, if_pos rfl, HKA.out, HKB.out, HX.out, HY.out]
    rw [e1, e2]
    clear e1 e2
    have cHA0 := HA.out.2.1
    have cHB20 := HB2.out.2.1
    go_enter Tryz.func105, Tryz.ntmps105
    go_wp2_with fail
    clear hfold
    refine (class_calls _ A _ HU.out).mono ?_
    rintro e W11 ⟨rfl, hB⟩
    clear cHA0 cHB20
    replace HA := Lib.hid (HA.out.below hB)
    replace HB2 := Lib.hid (HB2.out.below hB)
    replace HB := Lib.hid (HB.out.trans (hB.mono HB.out.size))
    replace HU := Lib.hid (HU.out.grow hB)
    replace HU2 := Lib.hid (HU2.out.grow hB)
    rw [HCA.out]
    clear hB
    have cHA0 := HA.out.2.1
    have cHB20 := HB2.out.2.1
    go_wp2_with fail
    refine (class_calls _ B _ HU2.out).mono ?_
    rintro e W12 ⟨rfl, hB⟩
    clear cHA0 cHB20
    replace HA := Lib.hid (HA.out.below hB)
    replace HB2 := Lib.hid (HB2.out.below hB)
    replace HB := Lib.hid (HB.out.trans (hB.mono HB.out.size))
    replace HU := Lib.hid (HU.out.grow hB)
    replace HU2 := Lib.hid (HU2.out.grow hB)
    rw [HCB.out]
    clear hB
    have cHA0 := HA.out.2.1
    have cHB20 := HB2.out.2.1
    go_wp2_with fail
    refine (ohas_calls _ _).mono ?_
    rintro e w9 ⟨rfl, rfl⟩
    go_wp2_with fail
    refine (vlen_calls _ A _ HU.out).mono ?_
    rintro e W13 ⟨rfl, hB⟩
    clear cHA0 cHB20
    replace HA := Lib.hid (HA.out.below hB)
    replace HB2 := Lib.hid (HB2.out.below hB)
    replace HB := Lib.hid (HB.out.trans (hB.mono HB.out.size))
    replace HU := Lib.hid (HU.out.grow hB)
    replace HU2 := Lib.hid (HU2.out.grow hB)
    clear hB
    have cHA0 := HA.out.2.1
    have cHB20 := HB2.out.2.1
    go_wp2_with fail
    refine (oex_yes _ HI.out).mono ?_
    rintro e w9 ⟨rfl, rfl⟩
    go_wp2_with fail
    refine (vlen_calls _ B _ HU2.out).mono ?_
    rintro e W14 ⟨rfl, hB⟩
    clear cHA0 cHB20
    replace HA := Lib.hid (HA.out.below hB)
    replace HB2 := Lib.hid (HB2.out.below hB)
    replace HB := Lib.hid (HB.out.trans (hB.mono HB.out.size))
    replace HU := Lib.hid (HU.out.grow hB)
    replace HU2 := Lib.hid (HU2.out.grow hB)
    clear hB
    have cHA0 := HA.out.2.1
    have cHB20 := HB2.out.2.1
    go_wp2_with fail
    refine (oex_yes _ HK.out).mono ?_
    rintro e w9 ⟨rfl, rfl⟩
    go_wp2_with fail
    obtain ⟨W15, hWD⟩ : ∃ xw9, W14.drew = xw9 := ⟨_, rfl⟩
    have hB : Below W14.heap.size W14 W15 := by rw [← hWD]; exact Below.drewN' (Below.refl _ _) 1
    clear cHA0 cHB20
    replace HA := Lib.hid (HA.out.below hB)
    replace HB2 := Lib.hid (HB2.out.below hB)
    replace HB := Lib.hid (HB.out.trans (hB.mono HB.out.size))
    replace HU := Lib.hid (HU.out.grow hB)
    replace HU2 := Lib.hid (HU2.out.grow hB)
    clear hB
    refine wp_region_held_drew (S := fun w' => w'.cell? ⟨w.heap.size, 0, none⟩ = some (uA) ∧ w'.cell? ⟨(w.heap.size + 1), 0, none⟩ = some (uB)) (by kernel_rfl) (by rw [hWD]; exact ⟨HA.out.2.1, HB2.out.2.1⟩) (fun hHeld => ?_)
    rw [hWD] at hHeld ⊢
    clear hWD
    refine wpAnyH_take (i := 0) (v := ?_) rfl (by kernel_rfl) (by kernel_rfl) (by kernel_rfl) (fun _ _ _ h => h) (Or.inl ⟨by rfl, ?_⟩) (by assumption) ?_
    rotate_left
    · (intro w hSw; (try dsimp only at hSw); go_simp; try with_reducible rfl)
    simp only [Act.put, List.getElem_toArray, List.getElem_cons_zero, List.setIfInBounds_toArray, List.set_cons_zero, List.set_cons_succ]
    refine wpAnyH_take (i := 1) (v := ?_) rfl (by kernel_rfl) (by kernel_rfl) (by kernel_rfl) (fun _ _ _ h => h) (Or.inl ⟨by rfl, ?_⟩) (by assumption) ?_
    rotate_left
    · (intro w hSw; (try dsimp only at hSw); go_simp; try with_reducible rfl)
    simp only [Act.put, List.getElem_toArray, List.getElem_cons_succ, List.getElem_cons_zero, List.setIfInBounds_toArray, List.set_cons_zero, List.set_cons_succ]
    refine wpAnyH_take (i := 3) (v := ?_) rfl (by kernel_rfl) (by kernel_rfl) (by kernel_rfl) (fun _ _ _ h => h) (Or.inl ⟨by rfl, ?_⟩) (by assumption) ?_
    rotate_left
    · (intro w hSw; (try dsimp only at hSw); go_simp; try with_reducible rfl)
    simp only [Act.put, List.getElem_toArray, List.getElem_cons_succ, List.getElem_cons_zero, List.setIfInBounds_toArray, List.set_cons_zero, List.set_cons_succ]
    refine wpAnyH_take (i := 4) (v := ?_) rfl (by kernel_rfl) (by kernel_rfl) (by kernel_rfl) (fun _ _ _ h => h) (Or.inl ⟨by rfl, ?_⟩) (by assumption) ?_
    rotate_left
    · (intro w hSw; (try dsimp only at hSw); go_simp; try with_reducible rfl)
    simp only [Act.put, List.getElem_toArray, List.getElem_cons_succ, List.getElem_cons_zero, List.setIfInBounds_toArray, List.set_cons_zero, List.set_cons_succ]
    refine wpAnyH_ready (rs := [2]) (by kernel_rfl) (by simp) ?_
    refine AllReadyH.cons (o := _) rfl (fun K hK => ?_) AllReadyH.nil
    clear hHeld
    go_simp
    refine (num_calls _ A _ _ HU.out).mono ?_
    rintro e W16 ⟨rfl, hB⟩
    replace HA := Lib.hid (HA.out.below hB)
    replace HB2 := Lib.hid (HB2.out.below hB)
    replace HB := Lib.hid (HB.out.trans (hB.mono HB.out.size))
    replace HU := Lib.hid (HU.out.grow hB)
    replace HU2 := Lib.hid (HU2.out.grow hB)
    rw [HX.out]
    clear hB
    try go_simp
    refine hK.out _ _ ?_ (fun hHeld => ?_)
    · exact ⟨HA.out.2.1, HB2.out.2.1⟩
    clear hK K
    refine wpAnyH_ready (rs := [5]) (by kernel_rfl) (by simp) ?_
    refine AllReadyH.cons (o := _) rfl (fun K hK => ?_) AllReadyH.nil
    clear hHeld
    go_simp
    refine (num_calls _ B _ _ HU2.out).mono ?_
    rintro e W17 ⟨rfl, hB⟩
    replace HA := Lib.hid (HA.out.below hB)
    replace HB2 := Lib.hid (HB2.out.below hB)
    replace HB := Lib.hid (HB.out.trans (hB.mono HB.out.size))
    replace HU := Lib.hid (HU.out.grow hB)
    replace HU2 := Lib.hid (HU2.out.grow hB)
    rw [HY.out]
    clear hB
    try go_simp
    refine hK.out _ _ ?_ (fun hHeld => ?_)
    · exact ⟨HA.out.2.1, HB2.out.2.1⟩
    clear hK K
    refine wpAnyH_ready (rs := [6]) (by kernel_rfl) (by simp) ?_
    refine AllReadyH.cons (o := _) rfl (fun K hK => ?_) AllReadyH.nil
    clear hHeld
    go_simp
    refine (cmpF_calls _ _ _ HFX.out HFY.out).mono ?_
    rintro e w9 ⟨rfl, rfl⟩
    try go_simp
    refine hK.out _ _ ?_ (fun hHeld => ?_)
    · exact ⟨HA.out.2.1, HB2.out.2.1⟩
    clear hK K
    refine wpAnyH_take (i := 7) (v := ?_) rfl (by kernel_rfl) (by kernel_rfl) (by kernel_rfl) (fun _ _ _ h => h) (Or.inl ⟨by rfl, ?_⟩) (by assumption) ?_
    rotate_left
    · (intro w hSw; (try dsimp only at hSw); go_simp; try with_reducible rfl)
    simp only [Act.put, List.getElem_toArray, List.getElem_cons_succ, List.getElem_cons_zero, List.setIfInBounds_toArray, List.set_cons_zero, List.set_cons_succ]
    refine wpAnyH_take (i := 8) (v := ?_) rfl (by kernel_rfl) (by kernel_rfl) (by kernel_rfl) (fun _ _ _ h => h) (Or.inl ⟨by rfl, ?_⟩) (by assumption) ?_
    rotate_left
    · (intro w hSw; (try dsimp only at hSw); go_simp; try with_reducible rfl)
    simp only [Act.put, List.getElem_toArray, List.getElem_cons_succ, List.getElem_cons_zero, List.setIfInBounds_toArray, List.set_cons_zero, List.set_cons_succ]
    refine wpAnyH_done (by kernel_rfl) ?_ _
    clear hHeld
    have cHA0 := HA.out.2.1
    have cHB20 := HB2.out.2.1
    go_wp2_with fail
    go_ret2
    exact ⟨rfl, HB.out⟩
  · have e1 : orB A B = true := by unfold orB; rw [HCA.out, HCB.out]; rfl
    have HKA := Lib.hid (show keyV A i = atI A.text 0 (i : Int) by unfold keyV; rw [if_neg (by rw [HCA.out]; decide)])
    have HKB := Lib.hid (show keyV B k = atI B.text 0 (k : Int) by unfold keyV; rw [if_neg (by rw [HCB.out]; decide)])
    obtain ⟨x, hx⟩ : ∃ x, atI A.text 0 (i : Int) = x := ⟨_, rfl⟩
    obtain ⟨y, hy⟩ : ∃ y, atI B.text 0 (k : Int) = y := ⟨_, rfl⟩
    have HX := Lib.hid hx
    have HY := Lib.hid hy
    clear hx hy
    have e2 : orC A i B k = cmpI x y := by unfold orC; rw [e1, if_pos rfl, HKA.out, HKB.out, HX.out, HY.out]
    rw [e1, e2]
    clear e1 e2
    have cHA0 := HA.out.2.1
    have cHB20 := HB2.out.2.1
    go_enter Tryz.func105, Tryz.ntmps105
    go_wp2_with fail
    clear hfold
    refine (class_calls _ A _ HU.out).mono ?_
    rintro e W11 ⟨rfl, hB⟩
    clear cHA0 cHB20
    replace HA := Lib.hid (HA.out.below hB)
    replace HB2 := Lib.hid (HB2.out.below hB)
    replace HB := Lib.hid (HB.out.trans (hB.mono HB.out.size))
    replace HU := Lib.hid (HU.out.grow hB)
    replace HU2 := Lib.hid (HU2.out.grow hB)
    rw [HCA.out]
    clear hB
    have cHA0 := HA.out.2.1
    have cHB20 := HB2.out.2.1
    go_wp2_with fail
    refine (class_calls _ B _ HU2.out).mono ?_
    rintro e W12 ⟨rfl, hB⟩
    clear cHA0 cHB20
    replace HA := Lib.hid (HA.out.below hB)
    replace HB2 := Lib.hid (HB2.out.below hB)
    replace HB := Lib.hid (HB.out.trans (hB.mono HB.out.size))
    replace HU := Lib.hid (HU.out.grow hB)
    replace HU2 := Lib.hid (HU2.out.grow hB)
    rw [HCB.out]
    clear hB
    have cHA0 := HA.out.2.1
    have cHB20 := HB2.out.2.1
    go_wp2_with fail
    refine (ohas_calls _ _).mono ?_
    rintro e w9 ⟨rfl, rfl⟩
    go_wp2_with fail
    refine (vlen_calls _ A _ HU.out).mono ?_
    rintro e W13 ⟨rfl, hB⟩
    clear cHA0 cHB20
    replace HA := Lib.hid (HA.out.below hB)
    replace HB2 := Lib.hid (HB2.out.below hB)
    replace HB := Lib.hid (HB.out.trans (hB.mono HB.out.size))
    replace HU := Lib.hid (HU.out.grow hB)
    replace HU2 := Lib.hid (HU2.out.grow hB)
    clear hB
    have cHA0 := HA.out.2.1
    have cHB20 := HB2.out.2.1
    go_wp2_with fail
    refine (oex_yes _ HI.out).mono ?_
    rintro e w9 ⟨rfl, rfl⟩
    go_wp2_with fail
    refine (vlen_calls _ B _ HU2.out).mono ?_
    rintro e W14 ⟨rfl, hB⟩
    clear cHA0 cHB20
    replace HA := Lib.hid (HA.out.below hB)
    replace HB2 := Lib.hid (HB2.out.below hB)
    replace HB := Lib.hid (HB.out.trans (hB.mono HB.out.size))
    replace HU := Lib.hid (HU.out.grow hB)
    replace HU2 := Lib.hid (HU2.out.grow hB)
    clear hB
    have cHA0 := HA.out.2.1
    have cHB20 := HB2.out.2.1
    go_wp2_with fail
    refine (oex_yes _ HK.out).mono ?_
    rintro e w9 ⟨rfl, rfl⟩
    go_wp2_with fail
    obtain ⟨W15, hWD⟩ : ∃ xw9, W14.drew = xw9 := ⟨_, rfl⟩
    have hB : Below W14.heap.size W14 W15 := by rw [← hWD]; exact Below.drewN' (Below.refl _ _) 1
    clear cHA0 cHB20
    replace HA := Lib.hid (HA.out.below hB)
    replace HB2 := Lib.hid (HB2.out.below hB)
    replace HB := Lib.hid (HB.out.trans (hB.mono HB.out.size))
    replace HU := Lib.hid (HU.out.grow hB)
    replace HU2 := Lib.hid (HU2.out.grow hB)
    clear hB
    refine wp_region_held_drew (S := fun w' => w'.cell? ⟨w.heap.size, 0, none⟩ = some (uA) ∧ w'.cell? ⟨(w.heap.size + 1), 0, none⟩ = some (uB)) (by kernel_rfl) (by rw [hWD]; exact ⟨HA.out.2.1, HB2.out.2.1⟩) (fun hHeld => ?_)
    rw [hWD] at hHeld ⊢
    clear hWD
    refine wpAnyH_take (i := 0) (v := ?_) rfl (by kernel_rfl) (by kernel_rfl) (by kernel_rfl) (fun _ _ _ h => h) (Or.inl ⟨by rfl, ?_⟩) (by assumption) ?_
    rotate_left
    · (intro w hSw; (try dsimp only at hSw); go_simp; try with_reducible rfl)
    simp only [Act.put, List.getElem_toArray, List.getElem_cons_zero, List.setIfInBounds_toArray, List.set_cons_zero, List.set_cons_succ]
    refine wpAnyH_take (i := 1) (v := ?_) rfl (by kernel_rfl) (by kernel_rfl) (by kernel_rfl) (fun _ _ _ h => h) (Or.inl ⟨by rfl, ?_⟩) (by assumption) ?_
    rotate_left
    · (intro w hSw; (try dsimp only at hSw); go_simp; try with_reducible rfl)
    simp only [Act.put, List.getElem_toArray, List.getElem_cons_succ, List.getElem_cons_zero, List.setIfInBounds_toArray, List.set_cons_zero, List.set_cons_succ]
    refine wpAnyH_take (i := 3) (v := ?_) rfl (by kernel_rfl) (by kernel_rfl) (by kernel_rfl) (fun _ _ _ h => h) (Or.inl ⟨by rfl, ?_⟩) (by assumption) ?_
    rotate_left
    · (intro w hSw; (try dsimp only at hSw); go_simp; try with_reducible rfl)
    simp only [Act.put, List.getElem_toArray, List.getElem_cons_succ, List.getElem_cons_zero, List.setIfInBounds_toArray, List.set_cons_zero, List.set_cons_succ]
    refine wpAnyH_take (i := 4) (v := ?_) rfl (by kernel_rfl) (by kernel_rfl) (by kernel_rfl) (fun _ _ _ h => h) (Or.inl ⟨by rfl, ?_⟩) (by assumption) ?_
    rotate_left
    · (intro w hSw; (try dsimp only at hSw); go_simp; try with_reducible rfl)
    simp only [Act.put, List.getElem_toArray, List.getElem_cons_succ, List.getElem_cons_zero, List.setIfInBounds_toArray, List.set_cons_zero, List.set_cons_succ]
    refine wpAnyH_ready (rs := [2]) (by kernel_rfl) (by simp) ?_
    refine AllReadyH.cons (o := _) rfl (fun K hK => ?_) AllReadyH.nil
    clear hHeld
    go_simp
    refine (vchar_calls _ A _ _ HU.out).mono ?_
    rintro e W16 ⟨rfl, hB⟩
    replace HA := Lib.hid (HA.out.below hB)
    replace HB2 := Lib.hid (HB2.out.below hB)
    replace HB := Lib.hid (HB.out.trans (hB.mono HB.out.size))
    replace HU := Lib.hid (HU.out.grow hB)
    replace HU2 := Lib.hid (HU2.out.grow hB)
    rw [HX.out]
    clear hB
    try go_simp
    refine hK.out _ _ ?_ (fun hHeld => ?_)
    · exact ⟨HA.out.2.1, HB2.out.2.1⟩
    clear hK K
    refine wpAnyH_ready (rs := [5]) (by kernel_rfl) (by simp) ?_
    refine AllReadyH.cons (o := _) rfl (fun K hK => ?_) AllReadyH.nil
    clear hHeld
    go_simp
    refine (vchar_calls _ B _ _ HU2.out).mono ?_
    rintro e W17 ⟨rfl, hB⟩
    replace HA := Lib.hid (HA.out.below hB)
    replace HB2 := Lib.hid (HB2.out.below hB)
    replace HB := Lib.hid (HB.out.trans (hB.mono HB.out.size))
    replace HU := Lib.hid (HU.out.grow hB)
    replace HU2 := Lib.hid (HU2.out.grow hB)
    rw [HY.out]
    clear hB
    try go_simp
    refine hK.out _ _ ?_ (fun hHeld => ?_)
    · exact ⟨HA.out.2.1, HB2.out.2.1⟩
    clear hK K
    refine wpAnyH_ready (rs := [6]) (by kernel_rfl) (by simp) ?_
    refine AllReadyH.cons (o := _) rfl (fun K hK => ?_) AllReadyH.nil
    clear hHeld
    go_simp
    refine (cmpR_calls _ _ _).mono ?_
    rintro e w9 ⟨rfl, rfl⟩
    try go_simp
    refine hK.out _ _ ?_ (fun hHeld => ?_)
    · exact ⟨HA.out.2.1, HB2.out.2.1⟩
    clear hK K
    refine wpAnyH_take (i := 7) (v := ?_) rfl (by kernel_rfl) (by kernel_rfl) (by kernel_rfl) (fun _ _ _ h => h) (Or.inl ⟨by rfl, ?_⟩) (by assumption) ?_
    rotate_left
    · (intro w hSw; (try dsimp only at hSw); go_simp; try with_reducible rfl)
    simp only [Act.put, List.getElem_toArray, List.getElem_cons_succ, List.getElem_cons_zero, List.setIfInBounds_toArray, List.set_cons_zero, List.set_cons_succ]
    refine wpAnyH_take (i := 8) (v := ?_) rfl (by kernel_rfl) (by kernel_rfl) (by kernel_rfl) (fun _ _ _ h => h) (Or.inl ⟨by rfl, ?_⟩) (by assumption) ?_
    rotate_left
    · (intro w hSw; (try dsimp only at hSw); go_simp; try with_reducible rfl)
    simp only [Act.put, List.getElem_toArray, List.getElem_cons_succ, List.getElem_cons_zero, List.setIfInBounds_toArray, List.set_cons_zero, List.set_cons_succ]
    refine wpAnyH_done (by kernel_rfl) ?_ _
    clear hHeld
    have cHA0 := HA.out.2.1
    have cHB20 := HB2.out.2.1
    go_wp2_with fail
    go_ret2
    exact ⟨rfl, HB.out⟩
  · have e1 : orB A B = false := by unfold orB; rw [HCA.out, HCB.out]; rfl
    have e2 : orC A i B k = 0 := by unfold orC; rw [e1]; rfl
    rw [e1, e2]
    clear e1 e2
    have cHA0 := HA.out.2.1
    have cHB20 := HB2.out.2.1
    go_enter Tryz.func105, Tryz.ntmps105
    go_wp2_with fail
    clear hfold
    refine (class_calls _ A _ HU.out).mono ?_
    rintro e W11 ⟨rfl, hB⟩
    clear cHA0 cHB20
    replace HA := Lib.hid (HA.out.below hB)
    replace HB2 := Lib.hid (HB2.out.below hB)
    replace HB := Lib.hid (HB.out.trans (hB.mono HB.out.size))
    replace HU := Lib.hid (HU.out.grow hB)
    replace HU2 := Lib.hid (HU2.out.grow hB)
    rw [HCA.out]
    clear hB
    have cHA0 := HA.out.2.1
    have cHB20 := HB2.out.2.1
    go_wp2_with fail
    refine (class_calls _ B _ HU2.out).mono ?_
    rintro e W12 ⟨rfl, hB⟩
    clear cHA0 cHB20
    replace HA := Lib.hid (HA.out.below hB)
    replace HB2 := Lib.hid (HB2.out.below hB)
    replace HB := Lib.hid (HB.out.trans (hB.mono HB.out.size))
    replace HU := Lib.hid (HU.out.grow hB)
    replace HU2 := Lib.hid (HU2.out.grow hB)
    rw [HCB.out]
    clear hB
    have cHA0 := HA.out.2.1
    have cHB20 := HB2.out.2.1
    go_wp2_with fail
    refine (ohas_calls _ _).mono ?_
    rintro e w9 ⟨rfl, rfl⟩
    go_wp2_with fail
    go_ret2
    exact ⟨rfl, HB.out⟩
end Go.Proofs.YtbdbpamefkgelaaGreatDoor

/- Layer 16, walked: Cells, Less. -/
namespace Go.Proofs.YtbdbpamefkgelaaGreatDoor
set_option maxRecDepth 100000
open Go.RowKit Fl
set_option linter.unusedVariables false

theorem ocompare_at {okA okB : Nat → Prop} (uA uB : Value) (A B : VV) (i k : Nat) (x y : Int) (w : World) (hA : IsV w okA uA A) (hB' : IsV w okB uB B) (fA : ∀ x ∈ A.nums, Fnt x) (fB : ∀ x ∈ B.nums, Fnt x) (hx : x = (i : Int)) (hy : y = (k : Int)) (hi : i < A.len) (hk : k < B.len) :
    Calls Tryz.prog 105 #[.agg #[uA], .int .i64 x, .agg #[uB], .int .i64 y] w fun e w' => e = .returned (.tuple #[.int .i64 (orC A i B k), .bool (orB A B)]) ∧ Below w.heap.size w w' := by
  subst hx hy
  exact ocompare_calls uA uB A B i k w hA hB' fA fB hi hk
theorem orB_self {A : VV} (h : A.cls < 2) : orB A A = true := decide_eq_true ⟨rfl, h⟩
theorem orC_self {A : VV} (h : A.cls < 2) (i k : Nat) : orC A i A k = cmpI (keyV A i) (keyV A k) := by unfold orC; rw [orB_self h]; rfl
/-- Cell i lies within n elements. -/
theorem cell_in {n size i : Nat} (h : i < n / size) : i * size + size ≤ n := by
  have h1 : (i + 1) * size ≤ n / size * size := Nat.mul_le_mul_right _ h
  have h2 := Nat.div_mul_le_self n size
  rw [Nat.add_mul, Nat.one_mul] at h1
  omega
theorem cmpK_lt {K : Nat → Int} {size i k j : Nat} (hj : j < size) (h : ∀ m, m < j → K (i * size + m) = K (k * size + m)) (hl : K (i * size + j) < K (k * size + j)) : cmpK K size i k = -1 := by
  unfold cmpK
  rw [lexI_hit (celK_get hj) (celK_get hj) (fun m hm => by rw [celK_get (by omega), celK_get (by omega), h m hm]), if_pos hl]
theorem cmpK_gt {K : Nat → Int} {size i k j : Nat} (hj : j < size) (h : ∀ m, m < j → K (i * size + m) = K (k * size + m)) (hl : K (k * size + j) < K (i * size + j)) : cmpK K size i k = 1 := by
  unfold cmpK
  rw [lexI_hit (celK_get hj) (celK_get hj) (fun m hm => by rw [celK_get (by omega), celK_get (by omega), h m hm]), if_neg (by omega), if_pos hl]
theorem cmpK_eq {K : Nat → Int} {size i k : Nat} (h : ∀ m, m < size → K (i * size + m) = K (k * size + m)) : cmpK K size i k = 0 := by
  unfold cmpK
  exact lexI_all (by rw [celK_len, celK_len]) (fun m hm => by rw [celK_len] at hm; rw [celK_get hm, celK_get hm, h m hm])
set_option maxHeartbeats 8000000 in
theorem ocells_calls {ok : Nat → Prop} (u : Value) (A : VV) (size i k : Nat) (w : World) (h : IsV w ok u A) (fA : ∀ x ∈ A.nums, Fnt x) (hc : A.cls < 2) (hs : 0 < size) (hm : A.len ≤ 1048576) (hi : i < A.len / size) (hk : k < A.len / size) :
    Calls Tryz.prog 75 #[.agg #[u], .int .i64 (size : Int), .int .i64 (i : Int), .int .i64 (k : Int)] w fun e w' => e = .returned (.int .i64 (cmpK (keyV A) size i k)) ∧ Below w.heap.size w w' := by
  have hsu := h.store
  have hin := cell_in hi
  have hkn := cell_in hk
  have hsm : size ≤ 1048576 := by omega
  have hQm : A.len / size ≤ A.len := Nat.div_le_self _ _
  obtain ⟨K, hK⟩ : ∃ K, keyV A = K := ⟨_, rfl⟩
  have HK := Lib.hid hK
  rw [hK]
  obtain ⟨R, hR⟩ : ∃ R, cmpK K size i k = R := ⟨_, rfl⟩
  have HR := Lib.hid hR
  rw [hR]
  obtain ⟨P, hP⟩ : ∃ P, i * size = P := ⟨_, rfl⟩
  obtain ⟨S, hS⟩ : ∃ S, k * size = S := ⟨_, rfl⟩
  rw [hP] at hin
  rw [hS] at hkn
  have HP := Lib.hid hP
  have HS := Lib.hid hS
  have HIN := Lib.hid (And.intro hin hkn)
  have HFA := Lib.hid fA
  have HC := Lib.hid hc
  have HM := Lib.hid hm
  have HPOS := Lib.hid hs
  obtain ⟨W1, hW1⟩ : ∃ W1, W1 = w.alloc (.cells #[u] 36) := ⟨_, rfl⟩
  have HB := Lib.hid (show Below w.heap.size w W1 by rw [hW1]; exact below_new _ _)
  have HA := Lib.hid (show At1 W1 w.heap.size u by rw [hW1]; exact At1.new w _ _)
  have HU := Lib.hid (show IsV W1 ok u A from h.grow HB.out)
  obtain ⟨Q, hQ⟩ : ∃ Q, A.len / size = Q := ⟨_, rfl⟩
  rw [hQ] at hi hk hQm
  have HQ := Lib.hid hQ
  have HI := Lib.hid hi
  have HKQ := Lib.hid hk
  have q1 : IntKind.i64.wrap ((i : Int) * (size : Int)) = (P : Int) := by rw [← Int.natCast_mul, hP]; exact IntWalk.i64_in _ (by omega)
  have q2 : IntKind.i64.wrap ((k : Int) * (size : Int)) = (S : Int) := by rw [← Int.natCast_mul, hS]; exact IntWalk.i64_in _ (by omega)
  have hPm : P + size ≤ 1048576 := by omega
  have hSm : S + size ≤ 1048576 := by omega
  have hfold := hW1.symm
  clear h hW1 fA hc hm hi hk hin hkn hK hR hP hS hQ hQm
  have cHA0 := HA.out.2.1
  go_enter Tryz.func75, Tryz.ntmps75
  go_wp2_with fail
  clear hfold
  refine (ocount_calls _ A size _ HU.out HPOS.out (by omega) HM.out).mono ?_
  rintro e W11 ⟨rfl, hB⟩
  clear cHA0
  replace HA := Lib.hid (HA.out.below hB)
  replace HB := Lib.hid (HB.out.trans (hB.mono HB.out.size))
  replace HU := Lib.hid (HU.out.grow hB)
  rw [HQ.out]
  clear hB
  have cHA0 := HA.out.2.1
  go_wp2_with fail
  refine (oex_yes _ HI.out).mono ?_
  rintro e w9 ⟨rfl, rfl⟩
  go_wp2_with fail
  refine (oex_yes _ HKQ.out).mono ?_
  rintro e w9 ⟨rfl, rfl⟩
  have HW := Lib.hid (Below.refl W11.heap.size W11)
  obtain ⟨W0, hW0⟩ : ∃ W0, W0 = W11 := ⟨_, rfl⟩
  rw [← hW0] at HA HB HU HW cHA0 ⊢
  clear hW0
  go_wp2_with fail
  go_loopw [27] (fun jv wr => ∃ j : Nat, j ≤ size ∧ jv = .int .i64 j ∧ (∀ m, m < j → K (P + m) = K (S + m)) ∧ Below W0.heap.size W0 wr) (fun jv _ => size - (intOf jv).toNat)
  case atStart => exact ⟨0, by omega, rfl, fun m hm => absurd hm (Nat.not_lt_zero _), HW.out⟩
  case round =>
    obtain ⟨j, hj, rfl, heq, hBr⟩ := hrel
    have HE := Lib.hid heq
    clear heq
    clear cHA0
    replace HA := Lib.hid (HA.out.below hBr)
    replace HU := Lib.hid (HU.out.grow hBr)
    replace HB := Lib.hid (HB.out.trans (hBr.mono HB.out.size))
    replace HW := Lib.hid hBr
    clear hBr
    by_cases hlt : j < size
    · have HIJ := Lib.hid (show P + j < A.len ∧ S + j < A.len by have := HIN.out; omega)
      have HLT := Lib.hid hlt
      have HC1 := Lib.hid (orC_self HC.out (P + j) (S + j))
      rw [HK.out] at HC1
      rcases Int.lt_trichotomy (K (P + j)) (K (S + j)) with hv | hv | hv
      · have HV := Lib.hid (HC1.out.trans (cmpI_lt hv))
        have HKV := Lib.hid hv
        clear hv
        have cHA0 := HA.out.2.1
        go_wp2_with fail
        refine (ocompare_at _ _ A A (P + j) (S + j) _ _ _ HU.out HU.out HFA.out HFA.out (by omega) (by omega) HIJ.out.1 HIJ.out.2).mono ?_
        rintro e W12 ⟨rfl, hB⟩
        clear cHA0
        replace HA := Lib.hid (HA.out.below hB)
        replace HB := Lib.hid (HB.out.trans (hB.mono HB.out.size))
        replace HU := Lib.hid (HU.out.grow hB)
        replace HW := Lib.hid (HW.out.trans (hB.mono HW.out.size))
        rw [HV.out]
        clear hB
        have cHA0 := HA.out.2.1
        go_wp2_with fail
        have HRV : R = -1 := by rw [← HR.out]; exact cmpK_lt (j := j) HLT.out (fun m hm => by rw [HP.out, HS.out]; exact HE.out m hm) (by rw [HP.out, HS.out]; exact HKV.out)
        go_ret
        exact ⟨by rw [HRV]; rfl, HB.out⟩
      · have HV := Lib.hid (HC1.out.trans (cmpI_eq hv))
        have HKV := Lib.hid hv
        clear hv
        have cHA0 := HA.out.2.1
        go_wp2_with fail
        refine (ocompare_at _ _ A A (P + j) (S + j) _ _ _ HU.out HU.out HFA.out HFA.out (by omega) (by omega) HIJ.out.1 HIJ.out.2).mono ?_
        rintro e W12 ⟨rfl, hB⟩
        clear cHA0
        replace HA := Lib.hid (HA.out.below hB)
        replace HB := Lib.hid (HB.out.trans (hB.mono HB.out.size))
        replace HU := Lib.hid (HU.out.grow hB)
        replace HW := Lib.hid (HW.out.trans (hB.mono HW.out.size))
        rw [HV.out]
        clear hB
        have cHA0 := HA.out.2.1
        go_wp2_with fail
        go_roundw
        case rel => exact ⟨j + 1, by omega, by go_num, fun m hm => by
          by_cases hmj : m < j
          · exact HE.out m hmj
          · rw [show m = j by omega]; exact HKV.out, HW.out⟩
        case measure => simp [intOf]; omega
      · have HV := Lib.hid (HC1.out.trans (cmpI_gt hv))
        have HKV := Lib.hid hv
        clear hv
        have cHA0 := HA.out.2.1
        go_wp2_with fail
        refine (ocompare_at _ _ A A (P + j) (S + j) _ _ _ HU.out HU.out HFA.out HFA.out (by omega) (by omega) HIJ.out.1 HIJ.out.2).mono ?_
        rintro e W12 ⟨rfl, hB⟩
        clear cHA0
        replace HA := Lib.hid (HA.out.below hB)
        replace HB := Lib.hid (HB.out.trans (hB.mono HB.out.size))
        replace HU := Lib.hid (HU.out.grow hB)
        replace HW := Lib.hid (HW.out.trans (hB.mono HW.out.size))
        rw [HV.out]
        clear hB
        have cHA0 := HA.out.2.1
        go_wp2_with fail
        have HRV : R = 1 := by rw [← HR.out]; exact cmpK_gt (j := j) HLT.out (fun m hm => by rw [HP.out, HS.out]; exact HE.out m hm) (by rw [HP.out, HS.out]; exact HKV.out)
        go_ret
        exact ⟨by rw [HRV]; rfl, HB.out⟩
    · have HRV := Lib.hid (show R = 0 by rw [← HR.out]; exact cmpK_eq (fun m hm => by rw [HP.out, HS.out]; exact HE.out m (by omega)))
      have cHA0 := HA.out.2.1
      go_wp2_with fail
      go_ret
      exact ⟨by rw [HRV.out]; rfl, HB.out⟩

set_option maxHeartbeats 4000000 in
theorem oless_calls {ok : Nat → Prop} (u : Value) (A : VV) (size i k : Nat) (down : Bool) (w : World) (h : IsV w ok u A) (fA : ∀ x ∈ A.nums, Fnt x) (hc : A.cls < 2) (hs : 0 < size) (hm : A.len ≤ 1048576) (hi : i < A.len / size) (hk : k < A.len / size) :
    Calls Tryz.prog 39 #[.agg #[u], .int .i64 (size : Int), .int .i64 (i : Int), .int .i64 (k : Int), .bool down] w fun e w' => e = .returned (.bool (lesK (keyV A) size down i k)) ∧ Below w.heap.size w w' := by
  have hsu := h.store
  have HFA := Lib.hid fA
  have HC := Lib.hid hc
  have HM := Lib.hid hm
  have HPOS := Lib.hid hs
  have HI := Lib.hid hi
  have HK := Lib.hid hk
  obtain ⟨W1, hW1⟩ : ∃ W1, W1 = w.alloc (.cells #[u] 36) := ⟨_, rfl⟩
  have HB := Lib.hid (show Below w.heap.size w W1 by rw [hW1]; exact below_new _ _)
  have HA := Lib.hid (show At1 W1 w.heap.size u by rw [hW1]; exact At1.new w _ _)
  have HU := Lib.hid (show IsV W1 ok u A from h.grow HB.out)
  obtain ⟨C, hC⟩ : ∃ C, cmpK (keyV A) size i k = C := ⟨_, rfl⟩
  have HCC := Lib.hid hC
  have HC3 := Lib.hid (show C = -1 ∨ C = 0 ∨ C = 1 by rw [← hC]; exact lexI_cases _ _)
  have HL := Lib.hid (show lesK (keyV A) size down i k = decide ((if down = true then -C else C) < 0 ∨ (if down = true then -C else C) = 0 ∧ i < k) by unfold lesK; rw [hC])
  obtain ⟨L, hL⟩ : ∃ L, lesK (keyV A) size down i k = L := ⟨_, rfl⟩
  rw [hL] at HL ⊢
  have hfold := hW1.symm
  clear h hW1 fA hc hm hi hk hs hC hL
  have cHA0 := HA.out.2.1
  go_enter Tryz.func39, Tryz.ntmps39
  go_wp2_with fail
  clear hfold
  refine (ocells_calls _ A size i k _ HU.out HFA.out HC.out HPOS.out HM.out HI.out HK.out).mono ?_
  rintro e W11 ⟨rfl, hB⟩
  clear cHA0
  replace HA := Lib.hid (HA.out.below hB)
  replace HB := Lib.hid (HB.out.trans (hB.mono HB.out.size))
  replace HU := Lib.hid (HU.out.grow hB)
  rw [HCC.out]
  clear hB
  rcases HC3.out with rfl | rfl | rfl
  · cases down
    · go_wp2_with fail
      go_ret
      exact ⟨by rw [HL.out]; rfl, HB.out⟩
    · go_wp2_with fail
      go_ret
      exact ⟨by rw [HL.out]; rfl, HB.out⟩
  · have hz := Lib.hid (show L = decide (i < k) by rw [HL.out]; cases down <;> simp)
    go_wp2_with fail
    go_ret
    exact ⟨by rw [hz.out]; rfl, HB.out⟩
  · cases down
    · go_wp2_with fail
      go_ret
      exact ⟨by rw [HL.out]; rfl, HB.out⟩
    · go_wp2_with fail
      go_ret
      exact ⟨by rw [HL.out]; rfl, HB.out⟩
end Go.Proofs.YtbdbpamefkgelaaGreatDoor

/- Layer 16, plain: the one list made place by place; how often numbers come up; the example. -/
namespace Go.Proofs.YtbdbpamefkgelaaGreatDoor
set_option maxRecDepth 100000
open Go.RowKit Fl
set_option linter.unusedVariables false

/-- The list in the making. -/
def grN (n : Nat) (lt : Nat → Nat → Bool) : Nat → List Nat
  | 0 => List.replicate n 0
  | i + 1 => (grN n lt i).set (rkO n lt i) i
theorem grN_len (n : Nat) (lt : Nat → Nat → Bool) : ∀ i, (grN n lt i).length = n
  | 0 => by simp [grN]
  | i + 1 => by simp only [grN, List.length_set]; exact grN_len n lt i
theorem grN_at {n : Nat} {lt : Nat → Nat → Bool} (h : TotO n lt) : ∀ i, i ≤ n → ∀ m, m < i → (grN n lt i)[rkO n lt m]? = some m := by
  intro i
  induction i with
  | zero => intro _ m hm; exact absurd hm (Nat.not_lt_zero _)
  | succ i ih =>
    intro hi m hm
    simp only [grN]
    by_cases e : rkO n lt i = rkO n lt m
    · have : i = m := rkO_inj h (by omega) (by omega) e
      subst this
      rw [List.getElem?_set, if_pos rfl, if_pos (by rw [grN_len]; exact rkO_bd h (by omega))]
    · rw [List.getElem?_set, if_neg e]
      exact ih (by omega) m (by
        have : m ≠ i := fun e2 => e (by rw [e2])
        omega)
theorem grN_gr {n : Nat} {lt : Nat → Nat → Bool} (h : TotO n lt) : IsGr n lt (grN n lt n) := ⟨grN_len _ _ _, fun i hi => grN_at h n (Nat.le_refl _) i hi⟩
/-- The list as ints. -/
def zL (l : List Nat) : List Int := l.map (fun p : Nat => (p : Int))
theorem zL_set (l : List Nat) (k x : Nat) : (zL l).set k (x : Int) = zL (l.set k x) := by unfold zL; rw [List.map_set]
theorem zL_len (l : List Nat) : (zL l).length = l.length := by simp [zL]
theorem zL_rep (n : Nat) : zL (List.replicate n 0) = List.replicate n 0 := by simp [zL]

end Go.Proofs.YtbdbpamefkgelaaGreatDoor

/- Layer 16, walked: the reference's Below, Cells, Less. -/
namespace Go.Proofs.YtbdbpamefkgelaaGreatDoor
set_option maxRecDepth 100000
open Go.RowKit Fl
set_option linter.unusedVariables false

/-- An item's key. -/
def keyP (p : PI) : Int := if p.1 = 0 then V p.2.1 else p.2.2.1
/-- Items of one kind, their keys. -/
def Keyed (l : List PI) (K : Nat → Int) : Prop := (∀ (i k : Nat) (p q : PI), l[i]? = some p → l[k]? = some q → q.1 = p.1 ∧ (p.1 = 0 → Fnt p.2.1 ∧ Fnt q.2.1)) ∧ ∀ (i : Nat) (p : PI), l[i]? = some p → keyP p = K i
end Go.Proofs.YtbdbpamefkgelaaGreatDoor

/- Layer 16, plain: the keys of a good array's vector and of its items. -/
namespace Go.Proofs.YtbdbpamefkgelaaGreatDoor
set_option maxRecDepth 100000
open Go.RowKit Fl
set_option linter.unusedVariables false

theorem keyed_its {d : Nat} {A : VV} (h : A.cls < 2) (hN : ∀ x ∈ A.nums, Fnt x) : Keyed (itsA d A) (keyV A) := by
  rcases VV.cls_cases A with c | c | c
  · rw [its_num c]
    have key : ∀ (i : Nat) (p : PI), (A.nums.map fun x => ((0 : Int), x, (0 : Int), ([] : List PA)))[i]? = some p → ∃ x, A.nums[i]? = some x ∧ p = (0, x, 0, []) := by
      intro i p hp
      rw [List.getElem?_map] at hp
      cases hx : A.nums[i]? with
      | none => rw [hx] at hp; cases hp
      | some x => rw [hx] at hp; exact ⟨x, rfl, (Option.some.inj hp).symm⟩
    refine ⟨fun i k p q hp hq => ?_, fun i p hp => ?_⟩
    · obtain ⟨x, hx, rfl⟩ := key i p hp
      obtain ⟨y, hy, rfl⟩ := key k q hq
      exact ⟨rfl, fun _ => ⟨hN x (List.mem_of_getElem? hx), hN y (List.mem_of_getElem? hy)⟩⟩
    · obtain ⟨x, hx, rfl⟩ := key i p hp
      unfold keyV keyP
      rw [if_pos c, if_pos rfl, atI_some hx]
  · rw [its_chr c]
    have key : ∀ (i : Nat) (p : PI), (A.text.map fun x => ((1 : Int), (0 : Nat), x, ([] : List PA)))[i]? = some p → ∃ x, A.text[i]? = some x ∧ p = (1, 0, x, []) := by
      intro i p hp
      rw [List.getElem?_map] at hp
      cases hx : A.text[i]? with
      | none => rw [hx] at hp; cases hp
      | some x => rw [hx] at hp; exact ⟨x, rfl, (Option.some.inj hp).symm⟩
    refine ⟨fun i k p q hp hq => ?_, fun i p hp => ?_⟩
    · obtain ⟨x, hx, rfl⟩ := key i p hp
      obtain ⟨y, hy, rfl⟩ := key k q hq
      exact ⟨rfl, fun h => by cases h⟩
    · obtain ⟨x, hx, rfl⟩ := key i p hp
      unfold keyV keyP
      rw [if_neg (show ¬ A.cls = 0 by omega), atI_some hx]; rfl
  · omega
/-- A checked array: its vector, its items. -/
theorem good_vec {p : PA} (h : chk 40 p = 0) : (arrP 40 p).2.cls = p.f ∧ (arrP 40 p).2.len = p.l.length ∧ (∀ x ∈ (arrP 40 p).2.nums, Fnt x) ∧ p.l.length ≤ 1048576 ∧ (p.f < 2 → Keyed (tidyP 40 p).l (keyV (arrP 40 p).2)) ∧ (tidyP 40 p).l.length = p.l.length := by
  obtain ⟨h1, h2, _⟩ := arrP_len h
  have hg := gA_gV (d := 39) (arrP_good 40 p h)
  have hN : ∀ x ∈ (arrP 40 p).2.nums, Fnt x := fun x hx => (VV.nums_num hg.1 hg.2.1 x hx).1
  have hi := its_arrP (d := 39) h
  refine ⟨h2, h1, hN, len_chk (d := 39) h, fun hf => ?_, ?_⟩
  · rw [← hi]; exact keyed_its (by rw [h2]; exact hf) hN
  · rw [← hi, itsA_len, h1]
theorem fld_arr16 (x y : Value) (w : World) : (Instr.field 38 (.agg #[x, y]) 1).run Tryz.prog w = .ok (.agg #[y]) w := by kernel_rfl
end Go.Proofs.YtbdbpamefkgelaaGreatDoor

/- Layer 16, walked: the reference's Grade, Once. -/
namespace Go.Proofs.YtbdbpamefkgelaaGreatDoor
set_option maxRecDepth 100000
open Go.RowKit Fl
set_option linter.unusedVariables false

end Go.Proofs.YtbdbpamefkgelaaGreatDoor

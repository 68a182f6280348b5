/- Layer 18, plain: two runs put together, the lesser one first; the order that an 'ahead' gives. -/
import Derived.Test.YtbdbpamefkgelaaGreatDoorOrM
import Derived.Test.YtbdbpamefkgelaaGreatDoorOrN
namespace Go.Proofs.YtbdbpamefkgelaaGreatDoor
set_option maxRecDepth 100000
set_option linter.unusedVariables false

/-- Ahead, and of alike ones the first. -/
def stO (ahead : Nat → Nat → Bool) (i k : Nat) : Bool := ahead i k || (!ahead k i && decide (i < k))
/-- A strict weak order of the numbers below n. -/
structure Weak (n : Nat) (ahead : Nat → Nat → Bool) : Prop where
  irr : ∀ i, i < n → ahead i i = false
  tra : ∀ i j k, i < n → j < n → k < n → ahead i j = true → ahead j k = true → ahead i k = true
  nei : ∀ i j k, i < n → j < n → k < n → ahead i j = false → ahead j k = false → ahead i k = false
theorem Weak.tot {n : Nat} {ahead : Nat → Nat → Bool} (h : Weak n ahead) : TotO n (stO ahead) := by
  have asy : ∀ i k, i < n → k < n → ahead i k = true → ahead k i = false := fun i k hi hk h1 => by
    cases h2 : ahead k i
    · rfl
    · have := h.tra i k i hi hk hi h1 h2
      rw [h.irr i hi] at this; cases this
  refine ⟨fun i hi => ?_, fun i j hi hj hij => ?_, fun i j k hi hj hk a b => ?_⟩
  · unfold stO; rw [h.irr i hi]; simp
  · unfold stO
    cases h1 : ahead i j
    · cases h2 : ahead j i
      · by_cases h3 : i < j
        · simp [h3, show ¬ j < i by omega]
        · simp [h3, show j < i by omega]
      · simp
    · rw [asy i j hi hj h1]; simp
  · unfold stO at a b ⊢
    cases h1 : ahead i j
    · cases h2 : ahead j k
      · rw [h1] at a; rw [h2] at b
        simp at a b
        have h3 := h.nei k j i hk hj hi b.1 a.1
        have h4 := h.nei i j k hi hj hk h1 h2
        rw [h3, h4]; simp; omega
      · rw [h1] at a
        simp at a
        cases h4 : ahead i k
        · have h5 : ahead k j = false := asy j k hj hk h2
          have h6 := h.nei j i k hj hi hk a.1 h4
          rw [h2] at h6; cases h6
        · rfl
    · cases h2 : ahead j k
      · rw [h2] at b
        simp at b
        cases h4 : ahead i k
        · have h6 := h.nei i k j hi hk hj h4 b.1
          rw [h1] at h6; cases h6
        · rfl
      · rw [h.tra i j k hi hj hk h1 h2]; rfl
/-- By keys. -/
theorem weak_keys (n : Nat) (E : Nat → Int) : Weak n (fun i k => decide (E i < E k)) :=
  ⟨fun i _ => by simp, fun i j k _ _ _ a b => by simp at a b ⊢; omega, fun i j k _ _ _ a b => by simp at a b ⊢; omega⟩
theorem cmpK_one18 (K : Nat → Int) (i k : Nat) : (cmpK K 1 i k < 0 ↔ K i < K k) ∧ (cmpK K 1 i k = 0 ↔ K i = K k) := by
  unfold cmpK celK
  simp only [List.range_succ, List.range_zero, List.nil_append, List.map_cons, List.map_nil, Nat.mul_one, Nat.add_zero, lexI]
  by_cases h1 : K i < K k
  · rw [if_pos h1]; constructor <;> constructor <;> intro h <;> first | omega | exact absurd h (by decide) | exact (by decide)
  · rw [if_neg h1]
    by_cases h2 : K k < K i
    · rw [if_pos h2]; constructor <;> constructor <;> intro h <;> first | omega | exact absurd h (by decide)
    · rw [if_neg h2]; constructor <;> constructor <;> intro h <;> first | omega | exact absurd h (by decide) | rfl
theorem stO_keys (E : Nat → Int) : stO (fun i k => decide (E i < E k)) = lesK E 1 false := by
  funext i k
  obtain ⟨h1, h2⟩ := cmpK_one18 E i k
  unfold stO lesK
  simp only [Bool.false_eq_true, if_false]
  rw [Bool.eq_iff_iff]
  simp only [Bool.or_eq_true, Bool.and_eq_true, Bool.not_eq_true', decide_eq_true_eq, decide_eq_false_iff_not]
  omega
/-- What is told by cells, either way: the order of cells. -/
theorem stO_cells (K : Nat → Int) (size : Nat) (down : Bool) : stO (fun i k => decide ((if down then - cmpK K size i k else cmpK K size i k) < 0)) = lesK K size down := by
  funext i k
  have ht : cmpK K size k i = - cmpK K size i k := lexI_turn _ _
  unfold stO lesK
  simp only [ht]
  generalize cmpK K size i k = c
  rw [Bool.eq_iff_iff]
  cases down <;> simp only [Bool.false_eq_true, if_false, if_true, Bool.or_eq_true, Bool.and_eq_true, Bool.not_eq_true', decide_eq_true_eq, decide_eq_false_iff_not] <;> omega
theorem weak_cells (K : Nat → Int) (size : Nat) (down : Bool) (n : Nat) : Weak n (fun i k => decide ((if down then - cmpK K size i k else cmpK K size i k) < 0)) := by
  have tr : ∀ i j k, cmpK K size i j ≤ 0 → cmpK K size j k ≤ 0 → cmpK K size i k ≤ 0 ∧ (cmpK K size i k = 0 → cmpK K size i j = 0 ∧ cmpK K size j k = 0) := fun i j k => lexI_tra _ _ _ (by rw [celK_len, celK_len]) (by rw [celK_len, celK_len])
  have ht : ∀ i k, cmpK K size k i = - cmpK K size i k := fun i k => lexI_turn _ _
  have hs : ∀ i, cmpK K size i i = 0 := fun i => lexI_self _
  refine ⟨fun i _ => by cases down <;> simp [hs], fun i j k _ _ _ a b => ?_, fun i j k _ _ _ a b => ?_⟩
  · cases down <;> simp only [Bool.false_eq_true, if_false, if_true, decide_eq_true_eq] at a b ⊢
    · obtain ⟨p, q⟩ := tr i j k (by omega) (by omega)
      by_cases e : cmpK K size i k = 0
      · have := q e; omega
      · omega
    · have h1 := ht i j; have h2 := ht j k; have h3 := ht i k
      obtain ⟨p, q⟩ := tr k j i (by omega) (by omega)
      by_cases e : cmpK K size k i = 0
      · have := q e; omega
      · omega
  · cases down <;> simp only [Bool.false_eq_true, if_false, if_true, decide_eq_false_iff_not] at a b ⊢
    · have h1 := ht i j; have h2 := ht j k; have h3 := ht i k
      obtain ⟨p, q⟩ := tr k j i (by omega) (by omega)
      omega
    · obtain ⟨p, q⟩ := tr i j k (by omega) (by omega)
      omega
/-- Two runs, i of the one and j of the other already put into the list o. -/
structure Mrg (lt : Nat → Nat → Bool) (A B : List Nat) (i j : Nat) (o : List Nat) : Prop where
  perm : o.Perm (A.take i ++ B.take j)
  pair : o.Pairwise (fun x y => lt x y = true)
  rest : ∀ x ∈ o, ∀ y ∈ A.drop i ++ B.drop j, lt x y = true
theorem Mrg.start (lt : Nat → Nat → Bool) (A B : List Nat) : Mrg lt A B 0 0 [] := ⟨by simp, List.Pairwise.nil, fun x hx => by cases hx⟩
theorem Mrg.len {lt : Nat → Nat → Bool} {A B : List Nat} {i j : Nat} {o : List Nat} (h : Mrg lt A B i j o) (hi : i ≤ A.length) (hj : j ≤ B.length) : o.length = i + j := by
  rw [h.perm.length_eq, List.length_append, List.length_take, List.length_take]; omega
theorem Mrg.swap {lt : Nat → Nat → Bool} {A B : List Nat} {i j : Nat} {o : List Nat} (h : Mrg lt A B i j o) : Mrg lt B A j i o :=
  ⟨h.perm.trans List.perm_append_comm, h.pair, fun x hx y hy => h.rest x hx y (by rw [List.mem_append] at hy ⊢; exact hy.symm)⟩
/-- A piece of the first run goes over: all of it is ahead of what is left of the other one. -/
theorem Mrg.piece {n : Nat} {lt : Nat → Nat → Bool} {A B : List Nat} {i j m : Nat} {o : List Nat} (h : Mrg lt A B i j o) (ht : TotO n lt) (hA : ∀ x ∈ A, x < n) (hB : ∀ x ∈ B, x < n) (sA : A.Pairwise (fun x y => lt x y = true)) (sB : B.Pairwise (fun x y => lt x y = true))
    (hm : i + m ≤ A.length) (hp : ∀ x ∈ (A.drop i).take m, ∀ b, B[j]? = some b → lt x b = true) : Mrg lt A B (i + m) j (o ++ (A.drop i).take m) := by
  have e1 : A.take (i + m) = A.take i ++ (A.drop i).take m := List.take_add ..
  have e2 : A.drop i = (A.drop i).take m ++ A.drop (i + m) := by rw [← List.drop_drop]; exact (List.take_append_drop m (A.drop i)).symm
  have sD : (A.drop i).Pairwise (fun x y => lt x y = true) := sA.sublist (List.drop_sublist i A)
  refine ⟨?_, ?_, ?_⟩
  · rw [e1]
    refine (h.perm.append_right _).trans ?_
    rw [List.append_assoc, List.append_assoc]
    exact List.perm_append_comm.append_left _
  · rw [List.pairwise_append]
    refine ⟨h.pair, sD.sublist (List.take_sublist _ _), fun x hx y hy => h.rest x hx y (List.mem_append_left _ (List.mem_of_mem_take hy))⟩
  · intro x hx y hy
    rcases List.mem_append.1 hx with h1 | h1
    · refine h.rest x h1 y ?_
      rcases List.mem_append.1 hy with h2 | h2
      · rw [e2]; exact List.mem_append_left _ (List.mem_append_right _ h2)
      · exact List.mem_append_right _ h2
    · rcases List.mem_append.1 hy with h2 | h2
      · rw [e2, List.pairwise_append] at sD
        exact sD.2.2 x h1 y h2
      · have hjl : j < B.length := by
          have := List.length_pos_of_mem h2
          rw [List.length_drop] at this; omega
        have hb : B[j]? = some B[j] := List.getElem?_eq_getElem hjl
        have hxb := hp x h1 _ hb
        rw [List.drop_eq_getElem_cons hjl] at h2
        rcases List.mem_cons.1 h2 with h3 | h3
        · rw [h3]; exact hxb
        · have sB2 : (B.drop j).Pairwise (fun x y => lt x y = true) := sB.sublist (List.drop_sublist j B)
          rw [List.drop_eq_getElem_cons hjl, List.pairwise_cons] at sB2
          have hby := sB2.1 y h3
          exact ht.tra x B[j] y (hA x (List.mem_of_mem_drop (List.mem_of_mem_take h1))) (hB _ (List.getElem_mem _)) (hB y (List.mem_of_mem_drop h3)) hxb hby
/-- One of the first run. -/
theorem Mrg.one {n : Nat} {lt : Nat → Nat → Bool} {A B : List Nat} {i j : Nat} {o : List Nat} {a : Nat} (h : Mrg lt A B i j o) (ht : TotO n lt) (hA : ∀ x ∈ A, x < n) (hB : ∀ x ∈ B, x < n) (sA : A.Pairwise (fun x y => lt x y = true)) (sB : B.Pairwise (fun x y => lt x y = true))
    (ha : A[i]? = some a) (hp : ∀ b, B[j]? = some b → lt a b = true) : Mrg lt A B (i + 1) j (o ++ [a]) := by
  obtain ⟨h1, h2⟩ := List.getElem?_eq_some_iff.1 ha
  have e : (A.drop i).take 1 = [a] := by rw [List.drop_eq_getElem_cons h1, h2]; rfl
  have := h.piece (m := 1) ht hA hB sA sB (by omega) (by rw [e]; intro x hx b hb; rw [List.mem_singleton.1 hx]; exact hp b hb)
  rwa [e] at this
/-- What is left of the first run, where nothing is left of the other. -/
theorem Mrg.left {n : Nat} {lt : Nat → Nat → Bool} {A B : List Nat} {i j : Nat} {o : List Nat} (h : Mrg lt A B i j o) (ht : TotO n lt) (hA : ∀ x ∈ A, x < n) (hB : ∀ x ∈ B, x < n) (sA : A.Pairwise (fun x y => lt x y = true)) (sB : B.Pairwise (fun x y => lt x y = true))
    (hi : i ≤ A.length) (hj : B.length ≤ j) : Mrg lt A B A.length j (o ++ A.drop i) := by
  have := h.piece (m := A.length - i) ht hA hB sA sB (by omega) (fun x _ b hb => by rw [List.getElem?_eq_none hj] at hb; cases hb)
  rw [List.take_of_length_le (by rw [List.length_drop]; exact Nat.le_refl _), show i + (A.length - i) = A.length by omega] at this
  exact this
theorem Mrg.ends {lt : Nat → Nat → Bool} {A B : List Nat} {i j : Nat} {o : List Nat} (h : Mrg lt A B i j o) (hi : A.length ≤ i) (hj : B.length ≤ j) : o.Perm (A ++ B) ∧ o.Pairwise (fun x y => lt x y = true) := by
  have := h.perm
  rw [List.take_of_length_le hi, List.take_of_length_le hj] at this
  exact ⟨this, h.pair⟩
/-- Which one goes first, where all of the first run stand ahead of the other one's. -/
theorem stO_pick {n : Nat} {ahead : Nat → Nat → Bool} (h : Weak n ahead) {a b : Nat} (ha : a < n) (hb : b < n) (hab : a < b) : (ahead b a = true → stO ahead b a = true) ∧ (ahead b a = false → stO ahead a b = true) := by
  unfold stO
  refine ⟨fun h1 => by rw [h1]; rfl, fun h1 => ?_⟩
  rw [h1, decide_eq_true hab]; simp
end Go.Proofs.YtbdbpamefkgelaaGreatDoor

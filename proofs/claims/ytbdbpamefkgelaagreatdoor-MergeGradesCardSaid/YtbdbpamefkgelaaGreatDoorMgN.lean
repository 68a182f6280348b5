/- Layer 18, plain: runs that are in order, merged two by two. -/
import Derived.Test.YtbdbpamefkgelaaGreatDoorMgM
import Derived.Laws.CopyOwn
namespace Go.Proofs.YtbdbpamefkgelaaGreatDoor
set_option maxRecDepth 100000
set_option linter.unusedVariables false

/-- Runs of r places: each holds its own places, in order. -/
structure Rp (lt : Nat → Nat → Bool) (r : Nat) (l : List Nat) : Prop where
  blk : ∀ i x, l[i]? = some x → x / r = i / r
  ord : ∀ i j x y, l[i]? = some x → l[j]? = some y → i < j → i / r = j / r → lt x y = true
theorem Rp.start (lt : Nat → Nat → Bool) (n : Nat) : Rp lt 1 (List.range n) := by
  refine ⟨fun i x h => ?_, fun i j x y _ _ h1 h2 => ?_⟩
  · obtain ⟨h1, h2⟩ := List.getElem?_eq_some_iff.1 h
    rw [List.getElem_range] at h2; rw [h2]
  · rw [Nat.div_one, Nat.div_one] at h2; omega
theorem Rp.nil (lt : Nat → Nat → Bool) (r : Nat) : Rp lt r [] := ⟨fun i x h => by simp at h, fun i j x y h => by simp at h⟩
/-- One run, whole. -/
def runL (l : List Nat) (r q : Nat) : List Nat := (l.drop (r * q)).take r
theorem runL_get {l : List Nat} {r q i x : Nat} (h : (runL l r q)[i]? = some x) : i < r ∧ l[r * q + i]? = some x := by
  unfold runL at h
  rw [List.getElem?_take] at h
  split at h
  · rename_i hi
    rw [List.getElem?_drop] at h
    exact ⟨hi, h⟩
  · cases h
theorem runL_len (l : List Nat) (r q : Nat) : (runL l r q).length = min r (l.length - r * q) := by unfold runL; rw [List.length_take, List.length_drop]
theorem div_run {r q i : Nat} (h : i < r) : (r * q + i) / r = q := by
  rw [Nat.mul_add_div (by omega), Nat.div_eq_of_lt h]; omega
theorem Rp.run {lt : Nat → Nat → Bool} {r : Nat} {l : List Nat} (h : Rp lt r l) (q : Nat) : (runL l r q).Pairwise (fun x y => lt x y = true) ∧ ∀ x ∈ runL l r q, x / r = q := by
  refine ⟨?_, fun x hx => ?_⟩
  · rw [List.pairwise_iff_getElem]
    intro i j hi hj hij
    obtain ⟨a1, a2⟩ := runL_get (List.getElem?_eq_getElem hi)
    obtain ⟨b1, b2⟩ := runL_get (List.getElem?_eq_getElem hj)
    exact h.ord _ _ _ _ a2 b2 (by omega) (by rw [div_run a1, div_run b1])
  · obtain ⟨i, hi⟩ := List.getElem?_of_mem hx
    obtain ⟨a1, a2⟩ := runL_get hi
    rw [h.blk _ _ a2, div_run a1]
theorem Rp.put {lt : Nat → Nat → Bool} {r q : Nat} {l o : List Nat} (h : Rp lt r l) (hl : l.length = r * q) (ho : ∀ x ∈ o, x / r = q) (hp : o.Pairwise (fun x y => lt x y = true)) (hm : o.length ≤ r) : Rp lt r (l ++ o) := by
  have key : ∀ i x, (l ++ o)[i]? = some x → (i < r * q ∧ l[i]? = some x) ∨ (r * q ≤ i ∧ i / r = q ∧ o[i - r * q]? = some x) := by
    intro i x hx
    by_cases hi : i < r * q
    · rw [List.getElem?_append_left (by omega)] at hx
      exact Or.inl ⟨hi, hx⟩
    · rw [List.getElem?_append_right (by omega), hl] at hx
      have h1 := (List.getElem?_eq_some_iff.1 hx).1
      refine Or.inr ⟨by omega, ?_, hx⟩
      have : i = r * q + (i - r * q) := by omega
      rw [this, div_run (by omega)]
  refine ⟨fun i x hx => ?_, fun i j x y hx hy hij hb => ?_⟩
  · rcases key i x hx with ⟨h1, h2⟩ | ⟨h1, h2, h3⟩
    · exact h.blk i x h2
    · rw [h2]; exact ho x (List.mem_of_getElem? h3)
  · rcases key i x hx with ⟨h1, h2⟩ | ⟨h1, h2, h3⟩
    · rcases key j y hy with ⟨k1, k2⟩ | ⟨k1, k2, k3⟩
      · exact h.ord i j x y h2 k2 hij hb
      · have hr : 0 < r := by
          rcases Nat.eq_zero_or_pos r with e | e
          · subst e; omega
          · exact e
        have := (Nat.div_lt_iff_lt_mul hr).2 (show i < q * r by rw [Nat.mul_comm]; exact h1)
        omega
    · rcases key j y hy with ⟨k1, k2⟩ | ⟨k1, k2, k3⟩
      · omega
      · obtain ⟨a1, a2⟩ := List.getElem?_eq_some_iff.1 h3
        obtain ⟨b1, b2⟩ := List.getElem?_eq_some_iff.1 k3
        have := List.pairwise_iff_getElem.1 hp _ _ a1 b1 (by omega)
        rwa [a2, b2] at this
theorem Rp.all {lt : Nat → Nat → Bool} {r : Nat} {l : List Nat} (h : Rp lt r l) (hr : l.length ≤ r) : l.Pairwise (fun x y => lt x y = true) := by
  rw [List.pairwise_iff_getElem]
  intro i j hi hj hij
  exact h.ord i j _ _ (List.getElem?_eq_getElem hi) (List.getElem?_eq_getElem hj) hij (by rw [Nat.div_eq_of_lt (by omega), Nat.div_eq_of_lt (by omega)])
theorem so_of_pair {n : Nat} {lt : Nat → Nat → Bool} (ht : TotO n lt) {l : List Nat} (hl : l.length = n) (hm : ∀ x ∈ l, x < n) (hp : l.Pairwise (fun x y => lt x y = true)) : IsSo n lt l := by
  refine ⟨hl, hm, ?_, fun r hr => ?_⟩
  · refine hp.imp_of_mem fun {x y} hx hy h e => ?_
    subst e
    rw [ht.irr x (hm x hx)] at h; cases h
  · have h1 := List.pairwise_iff_getElem.1 hp r (r + 1) (by omega) (by omega) (by omega)
    rw [List.getD_eq_getElem?_getD, List.getElem?_eq_getElem (by omega), List.getD_eq_getElem?_getD, List.getElem?_eq_getElem (by omega)]
    exact h1
/-- The two runs of a longer one. -/
theorem run_two {r q x : Nat} (h : x / r = 2 * q ∨ x / r = 2 * q + 1) : x / (2 * r) = q := by
  rw [Nat.mul_comm, ← Nat.div_div_eq_div_mul]; omega
theorem run_lt {r q x y : Nat} (hx : x / r = 2 * q) (hy : y / r = 2 * q + 1) : x < y := by
  rcases Nat.lt_or_ge x y with h | h
  · exact h
  · have := Nat.div_le_div_right (c := r) h; omega
/-- A row, a piece of it laid anew. -/
theorem splice_len {α : Type} (m : List α) (f : Nat) (o : List α) (h : f + o.length ≤ m.length) : (splice m f o).length = m.length := length_splice m f o h
theorem splice_nil {α : Type} (m : List α) (f : Nat) : splice m f [] = m := by simp [splice]
theorem splice_set {α : Type} (m : List α) (f : Nat) (o : List α) (x : α) (h : f + o.length < m.length) : (splice m f o).set (f + o.length) x = splice m f (o ++ [x]) := by
  unfold splice
  rw [List.set_append_right _ _ (by rw [List.length_take]; omega), List.set_append_right _ _ (by rw [List.length_take]; omega)]
  have e : f + o.length - (m.take f).length - o.length = 0 := by rw [List.length_take]; omega
  rw [e, List.drop_eq_getElem_cons h, List.set_cons_zero]
  simp only [List.length_append, List.length_singleton, List.append_assoc, List.singleton_append]
  rw [Nat.add_assoc]
theorem splice_more {α : Type} (m : List α) (f : Nat) (o cs : List α) (h : f + o.length + cs.length ≤ m.length) : splice (splice m f o) (f + o.length) cs = splice m f (o ++ cs) := by
  have hl : (m.take f ++ o).length = f + o.length := by rw [List.length_append, List.length_take]; omega
  unfold splice
  rw [← List.append_assoc (m.take f) o, List.take_left' hl, ← hl, List.drop_append, hl]
  rw [List.drop_eq_nil_of_le (by omega), List.nil_append, List.drop_drop]
  simp only [List.length_append, List.append_assoc]
  rw [show f + o.length + (f + o.length + cs.length - (f + o.length)) = f + (o.length + cs.length) by omega]
theorem splice_map {α β : Type} (F : α → β) (m : List α) (f : Nat) (o : List α) : (splice m f o).map F = splice (m.map F) f (o.map F) := by
  simp [splice, List.map_take, List.map_drop]
/-- What is done behind one more run. -/
theorem splice_take {α : Type} (m : List α) (f r : Nat) (o : List α) (hf : f < m.length) (ho : o.length = min r (m.length - f)) : (splice m f o).take (f + r) = m.take f ++ o := by
  have hl : (m.take f ++ o).length = f + o.length := by rw [List.length_append, List.length_take]; omega
  unfold splice
  rw [← List.append_assoc]
  by_cases h : f + r ≤ m.length
  · rw [List.take_left' (by rw [hl]; omega)]
  · rw [List.drop_eq_nil_of_le (by omega), List.append_nil, List.take_of_length_le (by rw [hl]; omega)]
end Go.Proofs.YtbdbpamefkgelaaGreatDoor

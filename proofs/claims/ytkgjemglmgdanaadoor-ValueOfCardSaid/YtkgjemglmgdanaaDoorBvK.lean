/- Two slices compared: slices.Equal, the references' Bools, Nums, Ints; bitvec.Equal. -/
import Derived.Test.YtkgjemglmgdanaaDoorBvB
namespace Go.Proofs.YtkgjemglmgdanaaDoor
open Go.RowKit
set_option linter.unusedVariables false

theorem take_step {α : Type} {xs ys : List α} {k : Nat} (h1 : k < xs.length) (h2 : k < ys.length) (h : xs.take k = ys.take k) (e : xs[k] = ys[k]) : xs.take (k + 1) = ys.take (k + 1) := by
  rw [List.take_succ_eq_append_getElem h1, List.take_succ_eq_append_getElem h2, h, e]
theorem ne_at {α : Type} [BEq α] [LawfulBEq α] {xs ys : List α} {k : Nat} (h1 : k < xs.length) (h2 : k < ys.length) (e : xs[k] ≠ ys[k]) : (xs == ys) = false := by
  rw [beq_eq_false_iff_ne]; intro h; subst h; exact e rfl
theorem ne_len {α : Type} [BEq α] [LawfulBEq α] {xs ys : List α} (e : xs.length ≠ ys.length) : (xs == ys) = false := by
  rw [beq_eq_false_iff_ne]; intro h; subst h; exact e rfl
theorem eq_all {α : Type} [BEq α] [LawfulBEq α] {xs ys : List α} {k : Nat} (h1 : xs.length ≤ k) (h2 : ys.length ≤ k) (h : xs.take k = ys.take k) : (xs == ys) = true := by
  rw [List.take_of_length_le h1, List.take_of_length_le h2] at h; simp [h]

/-- bitvec.Equal. -/
theorem isBits_eq {w : World} {v : Value} {x : List Bool} (h : IsBits w v x) : ∃ s, v = .agg #[.int .i64 (x.length : Int), s] ∧ Sl w s (words x).length (u64s (words x)) := by
  obtain ⟨s, h1, h2⟩ := h
  exact ⟨s, h1, by rw [words_len]; exact h2⟩
end Go.Proofs.YtkgjemglmgdanaaDoor

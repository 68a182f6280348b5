/- Layer 15, walked: slices.Repeat of one whole number. -/
import Derived.Test.YtbdhibcbpgjbmaaGreatDoorFoW
namespace Go.Proofs.YtbdhibcbpgjbmaaGreatDoor
set_option maxRecDepth 100000
open Go.RowKit
set_option linter.unusedVariables false

/-- A row of c cells, the first n of them x. -/
def repI (x : Int) (c n : Nat) : List Value := List.replicate n (.int .i64 x) ++ List.replicate (c - n) (.int .i64 0)
theorem repI_len (x : Int) (c n : Nat) (h : n ≤ c) : (repI x c n).length = c := by simp [repI]; omega
theorem repI_full (x : Int) (c : Nat) : repI x c c = List.replicate c (.int .i64 x) := by simp [repI]
theorem repI_zero (x : Int) (c : Nat) : repI x c 0 = List.replicate c (.int .i64 0) := by simp [repI]
theorem repI_splice (x : Int) (c n k : Nat) (h : n + k ≤ c) : splice (repI x c n) n (List.replicate k (.int .i64 x)) = repI x c (n + k) := by
 unfold splice repI
 rw [List.take_left' (by simp), List.length_replicate, ← List.append_assoc, List.replicate_append_replicate, List.drop_append, List.drop_eq_nil_of_le (by simp), List.nil_append, List.drop_replicate]
 congr 2
 simp; omega
theorem repI_get (x : Int) (c n : Nat) {j : Nat} (hj : j < n) : (repI x c n)[j]? = some (.int .i64 x) := by
 unfold repI
 rw [List.getElem?_append_left (by simpa using hj), List.getElem?_replicate, if_pos hj]
end Go.Proofs.YtbdhibcbpgjbmaaGreatDoor

/- Merged: ArM, ArB, ArC, ArD, ArE, ArA, ArF, ArG. -/
import Derived.Test.YtakbhiomhjmihaaDoorMgNu1
import Derived.Test.YtakbhiomhjmihaaDoorMgMo1
import Derived.Test.YtakbhiomhjmihaaDoorMgVe1
import Derived.Test.YtakbhiomhjmihaaDoorMgSq1
/- Layers 10 and above, plain: the vector of given numbers; a function done to all elements; what every function of two numbers does. -/
namespace Go.Proofs.YtakbhiomhjmihaaDoor
set_option maxRecDepth 100000
open Go.RowKit Fl
set_option linter.unusedVariables false

end Go.Proofs.YtakbhiomhjmihaaDoor

/- Layer 10, plain: the elements of two lists that go together; what whole numbers make; what Apply tells. -/
namespace Go.Proofs.YtakbhiomhjmihaaDoor
set_option maxRecDepth 100000
open Go.RowKit Fl
set_option linter.unusedVariables false

/-- The element at a place: of a list of one element always this one. -/
def pk {α : Type} (d : α) (l : List α) (i : Nat) : α := l.getD (if l.length = 1 then 0 else i) d
def prs {α : Type} (d : α) (a b : List α) (n : Nat) : List (α × α) := (List.range n).map fun i => (pk d a i, pk d b i)
theorem prs_len {α : Type} (d : α) (a b : List α) (n : Nat) : (prs d a b n).length = n := by simp [prs]
theorem prs_get {α : Type} {d : α} {a b : List α} {n k : Nat} (h : k < n) : (prs d a b n)[k]? = some (pk d a k, pk d b k) := by
 unfold prs
 rw [List.getElem?_map, List.getElem?_range h]; rfl
/-- Two lengths that go together, and how many elements come of them. -/
abbrev goesA (m n : Nat) : Prop := m = n ∨ n = 1 ∨ m = 1
def lenN (m n : Nat) : Nat := if m = n ∨ n = 1 then m else n
theorem lenN_in {m n i : Nat} (h : goesA m n) (hi : i < lenN m n) : (m = 1 ∨ i < m) ∧ (n = 1 ∨ i < n) := by
 unfold lenN at hi
 split at hi <;> omega
theorem lenN_le {m n k : Nat} (h1 : m ≤ k) (h2 : n ≤ k) : lenN m n ≤ k := by unfold lenN; split <;> omega
theorem VV.nums_len0 {V : VV} (h : V.cls = 0) : V.nums.length = V.len := by
 cases V <;> first | (simp [VV.nums, VV.len]; done) | (simp [VV.cls] at h)
end Go.Proofs.YtakbhiomhjmihaaDoor

/- Package arith, walked: One, Length, known, at, oneWhole. -/
namespace Go.Proofs.YtakbhiomhjmihaaDoor
set_option maxRecDepth 100000
open Go.RowKit Fl
set_option linter.unusedVariables false

/-- Length of any two whole numbers. -/
def goB (m n : Int) : Bool := decide (n = m ∨ n = 1 ∨ m = 1)
def goL (m n : Int) : Int := if n = m ∨ n = 1 then m else if m = 1 then n else 0
theorem ret_ib {a b : Int} {c d : Bool} (h : a = b) (h2 : c = d) : Ending.returned (.tuple #[.int .i64 a, .bool c]) = .returned (.tuple #[.int .i64 b, .bool d]) := by rw [h, h2]
theorem alen_calls (m n : Int) (w : World) : Calls Tryd.prog 33 #[.int .i64 m, .int .i64 n] w fun e w' => e = .returned (.tuple #[.int .i64 (goL m n), .bool (goB m n)]) ∧ w = w' := by
 by_cases h1 : n = m
 ·have HE := Lib.hid (show goL m n = m by unfold goL; rw [if_pos (Or.inl h1)])
  have HG := Lib.hid (show goB m n = true from decide_eq_true (Or.inl h1))
  have hb : (n == m) = true := by simp [h1]
  clear h1
  go_enter Tryd.func33, Tryd.ntmps33
  go_wp2
  go_ret2
  exact ⟨ret_ib HE.out.symm HG.out.symm, rfl⟩
 ·have hb : (n == m) = false := by simp [h1]
  by_cases h2 : n = 1
  ·have HE := Lib.hid (show goL m n = m by unfold goL; rw [if_pos (Or.inr h2)])
   have HG := Lib.hid (show goB m n = true from decide_eq_true (Or.inr (Or.inl h2)))
   have hb2 : (n == 1) = true := by simp [h2]
   clear h1 h2
   go_enter Tryd.func33, Tryd.ntmps33
   go_wp2
   go_ret2
   exact ⟨ret_ib HE.out.symm HG.out.symm, rfl⟩
  ·have hb2 : (n == 1) = false := by simp [h2]
   by_cases h3 : m = 1
   ·have HE := Lib.hid (show goL m n = n by unfold goL; rw [if_neg (by simp [h1, h2]), if_pos h3])
    have HG := Lib.hid (show goB m n = true from decide_eq_true (Or.inr (Or.inr h3)))
    have hb3 : (m == 1) = true := by simp [h3]
    clear h1 h2 h3
    go_enter Tryd.func33, Tryd.ntmps33
    go_wp2
    go_ret2
    exact ⟨ret_ib HE.out.symm HG.out.symm, rfl⟩
   ·have HE := Lib.hid (show goL m n = 0 by unfold goL; rw [if_neg (by simp [h1, h2]), if_neg h3])
    have HG := Lib.hid (show goB m n = false from decide_eq_false (by simp [h1, h2, h3]))
    have hb3 : (m == 1) = false := by simp [h3]
    clear h1 h2 h3
    go_enter Tryd.func33, Tryd.ntmps33
    go_wp2
    go_ret2
    exact ⟨ret_ib HE.out.symm HG.out.symm, rfl⟩
theorem alen_yes (m n : Nat) (w : World) (h : goesA m n) : Calls Tryd.prog 33 #[.int .i64 (m : Int), .int .i64 (n : Int)] w fun e w' => e = .returned (.tuple #[.int .i64 (lenN m n : Int), .bool true]) ∧ w = w' := by
 have e1 : goL m n = (lenN m n : Int) := by unfold goL lenN; split <;> split <;> (try split) <;> omega
 have e2 : goB m n = true := decide_eq_true (by omega)
 rw [← e1, ← e2]
 exact alen_calls m n w
theorem alen_no (m n : Nat) (w : World) (h : ¬ goesA m n) : Calls Tryd.prog 33 #[.int .i64 (m : Int), .int .i64 (n : Int)] w fun e w' => e = .returned (.tuple #[.int .i64 0, .bool false]) ∧ w = w' := by
 have e1 : goL m n = 0 := by unfold goL; rw [if_neg (by omega), if_neg (by omega)]
 have e2 : goB m n = false := decide_eq_false (by omega)
 rw [← e1, ← e2]
 exact alen_calls m n w
end Go.Proofs.YtakbhiomhjmihaaDoor

/- Package arith, walked: ofWholes, ofNumbers. -/
namespace Go.Proofs.YtakbhiomhjmihaaDoor
set_option maxRecDepth 100000
open Go.RowKit Fl
set_option linter.unusedVariables false

end Go.Proofs.YtakbhiomhjmihaaDoor

/- Package arith, walked: Apply. -/
namespace Go.Proofs.YtakbhiomhjmihaaDoor
set_option maxRecDepth 100000
open Go.RowKit Fl
set_option linter.unusedVariables false

end Go.Proofs.YtakbhiomhjmihaaDoor

/- Layer 10: the reference's One, Length, Pair, Apply, walked. -/
namespace Go.Proofs.YtakbhiomhjmihaaDoor
set_option maxRecDepth 100000
open Go.RowKit Fl
set_option linter.unusedVariables false

/-- The length of two lists together; below 0: they don't go together. -/
def lenA (m n : Int) : Int := if m = n ∨ n = 1 then m else if m = 1 then n else -1
theorem ralen_calls (m n : Int) (w : World) : Calls Tryd.prog 39 #[.int .i64 m, .int .i64 n] w fun e w' => e = .returned (.int .i64 (lenA m n)) ∧ w = w' := by
 by_cases h1 : m = n
 ·have HE := Lib.hid (show lenA m n = m by unfold lenA; rw [if_pos (Or.inl h1)])
  have hb : (m == n) = true := by simp [h1]
  clear h1
  go_enter Tryd.func39, Tryd.ntmps39
  go_wp2
  go_ret
  exact ⟨ret_i HE.out.symm, rfl⟩
 ·have hb : (m == n) = false := by simp [h1]
  by_cases h2 : n = 1
  ·have HE := Lib.hid (show lenA m n = m by unfold lenA; rw [if_pos (Or.inr h2)])
   have hb2 : (n == 1) = true := by simp [h2]
   clear h1 h2
   go_enter Tryd.func39, Tryd.ntmps39
   go_wp2
   go_ret
   exact ⟨ret_i HE.out.symm, rfl⟩
  ·have hb2 : (n == 1) = false := by simp [h2]
   by_cases h3 : m = 1
   ·have HE := Lib.hid (show lenA m n = n by unfold lenA; rw [if_neg (by simp [h1, h2]), if_pos h3])
    have hb3 : (m == 1) = true := by simp [h3]
    clear h1 h2 h3
    go_enter Tryd.func39, Tryd.ntmps39
    go_wp2
    go_ret
    exact ⟨ret_i HE.out.symm, rfl⟩
   ·have HE := Lib.hid (show lenA m n = -1 by unfold lenA; rw [if_neg (by simp [h1, h2]), if_neg h3])
    have hb3 : (m == 1) = false := by simp [h3]
    clear h1 h2 h3
    go_enter Tryd.func39, Tryd.ntmps39
    go_wp2
    go_ret
    exact ⟨ret_i HE.out.symm, rfl⟩
end Go.Proofs.YtakbhiomhjmihaaDoor

/- Layer 10: the reference's Pair, Apply, walked. -/
namespace Go.Proofs.YtakbhiomhjmihaaDoor
set_option maxRecDepth 100000
open Go.RowKit Fl
set_option linter.unusedVariables false

theorem ralen_yes (m n : Nat) (w : World) (h : goesA m n) : Calls Tryd.prog 39 #[.int .i64 (m : Int), .int .i64 (n : Int)] w fun e w' => e = .returned (.int .i64 (lenN m n : Int)) ∧ w = w' := by
 have e1 : lenA m n = (lenN m n : Int) := by unfold lenA lenN; split <;> split <;> (try split) <;> omega
 rw [← e1]
 exact ralen_calls m n w
theorem ralen_no (m n : Nat) (w : World) (h : ¬ goesA m n) : Calls Tryd.prog 39 #[.int .i64 (m : Int), .int .i64 (n : Int)] w fun e w' => e = .returned (.int .i64 (-1)) ∧ w = w' := by
 have e1 : lenA m n = -1 := by unfold lenA; rw [if_neg (by omega), if_neg (by omega)]
 rw [← e1]
 exact ralen_calls m n w

end Go.Proofs.YtakbhiomhjmihaaDoor

/- Layer 10's laws: kept, awake. -/
namespace Go.Proofs.YtakbhiomhjmihaaDoor
set_option maxRecDepth 100000
open Go.RowKit Fl
set_option linter.unusedVariables false

/-- Numbers in a store: a vector that holds them, or none. -/
def Kep (l : List Nat) (V : VV) : Prop := V.ok ∧ V.nm ∧ V.cls = 0 ∧ V.nums = l ∧ V.len = l.length
theorem kep_floats {t : List Nat} (hl : t.length ≤ 1048576) (hN : ∀ x ∈ t, Num x) : Kep t (.floats t) := ⟨hl, hN, rfl, rfl, rfl⟩
theorem kep_into {t : List Nat} {k : Int} (hl : t.length ≤ 1048576) (hN : ∀ x ∈ t, Num x) (h : (VV.floats t).fit k = true) : Kep t ((VV.floats t).into k) := by
 obtain ⟨_, h2, h3, h4, h5, h6⟩ := VV.into_spec (V := VV.floats t) hl hN h
 exact ⟨h4, h5, h3, h2, h6⟩
end Go.Proofs.YtakbhiomhjmihaaDoor

/- Merged: LoM, LoA, LoC. -/
import Derived.Test.YtghojndkcndjbaaGreatDoorMgRe1
import Derived.Test.YtghojndkcndjbaaGreatDoorMgSq1
import Derived.Test.YtghojndkcndjbaaGreatDoorMgVe1
import Derived.Test.YtghojndkcndjbaaGreatDoorMgMo1
/- Layer 12, plain: functions of two truths, numbers as truths, what Apply tells. -/
namespace Go.Proofs.YtghojndkcndjbaaGreatDoor
set_option maxRecDepth 100000
open Go.RowKit Fl
set_option linter.unusedVariables false

/-- A function of two truths. -/
def logB (f : Int) (a b : Bool) : Bool := if f = 21 then a && b else if f = 22 then a || b else if f = 23 then !(a && b) else if f = 24 then !(a || b) else false
def logE (f : Int) : Int := if 21 ≤ f ∧ f ≤ 24 then 0 else 1
theorem log_cases (f : Int) : f = 21 ∨ f = 22 ∨ f = 23 ∨ f = 24 ∨ ¬ (21 ≤ f ∧ f ≤ 24) := by omega
theorem logB_none {f : Int} (a b : Bool) (h : ¬ (21 ≤ f ∧ f ≤ 24)) : logB f a b = false := by
 unfold logB
 rw [if_neg (by omega), if_neg (by omega), if_neg (by omega), if_neg (by omega)]
/-- The table of a function of two truths, up to a place. -/
def tabL (f : Int) : Nat → Nat
 | 0 => 0
 | k + 1 => if logB f (decide (k / 2 = 1)) (decide (k % 2 = 1)) then tabL f k ||| 2 ^ k else tabL f k
/-- Is a word 0 or 1? Numbers as truths. -/
def isT (x : Nat) : Bool := decide (V x = 0) || decide (V x = pw 1074)
def truL (l : List Nat) : Option (List Bool) := if l.all isT then some (l.map bitW) else none
/-- The elements of a vector as truths. -/
def VV.tru (A : VV) : Option (List Bool) := if A.isBit = true then some A.packed else if A.kind = 0 ∨ A.cls ≠ 0 then Option.none else truL A.nums
/-- What Apply tells: the error; the truths; the vector. -/
def VV.tr (A : VV) : List Bool := A.tru.getD []
end Go.Proofs.YtghojndkcndjbaaGreatDoor

/- Layer 12: One of the program and of the reference; known, tableOf, spread; the reference's Truths, walked. -/
namespace Go.Proofs.YtghojndkcndjbaaGreatDoor
set_option maxRecDepth 100000
open Go.RowKit Fl
set_option linter.unusedVariables false

set_option maxHeartbeats 4000000 in
theorem loone_calls (f : Int) (a b : Bool) (w : World) : Calls Tryz.prog 75 #[.int .i64 f, .bool a, .bool b] w fun e w' => e = .returned (.tuple #[.bool (logB f a b), .int .i64 (logE f)]) ∧ w = w' := by
 rcases log_cases f with rfl | rfl | rfl | rfl | hf
 ·cases a <;> cases b
  all_goals
   go_enter Tryz.func75, Tryz.ntmps75
   go_wp2
   go_ret2
   exact ⟨rfl, rfl⟩
 ·cases a <;> cases b
  all_goals
   go_enter Tryz.func75, Tryz.ntmps75
   go_wp2
   go_ret2
   exact ⟨rfl, rfl⟩
 ·cases a <;> cases b
  all_goals
   go_enter Tryz.func75, Tryz.ntmps75
   go_wp2
   go_ret2
   exact ⟨rfl, rfl⟩
 ·cases a <;> cases b
  all_goals
   go_enter Tryz.func75, Tryz.ntmps75
   go_wp2
   go_ret2
   exact ⟨rfl, rfl⟩
 ·have HE := Lib.hid (logB_none a b hf)
  have HG := Lib.hid (show logE f = 1 from if_neg hf)
  rw [HE.out, HG.out]
  have n21 : (f == 21) = false := by rw [beq_eq_false_iff_ne]; omega
  have n22 : (f == 22) = false := by rw [beq_eq_false_iff_ne]; omega
  have n23 : (f == 23) = false := by rw [beq_eq_false_iff_ne]; omega
  have n24 : (f == 24) = false := by rw [beq_eq_false_iff_ne]; omega
  clear hf
  go_enter Tryz.func75, Tryz.ntmps75
  go_wp2
  go_ret2
  exact ⟨rfl, rfl⟩
set_option maxHeartbeats 4000000 in
theorem rlone_calls (f : Int) (a b : Bool) (w : World) : Calls Tryz.prog 41 #[.int .i64 f, .bool a, .bool b] w fun e w' => e = .returned (.tuple #[.bool (logB f a b), .int .i64 (logE f)]) ∧ w = w' := by
 rcases log_cases f with rfl | rfl | rfl | rfl | hf
 ·cases a <;> cases b
  all_goals
   go_enter Tryz.func41, Tryz.ntmps41
   go_wp2
   go_ret2
   exact ⟨rfl, rfl⟩
 ·cases a <;> cases b
  all_goals
   go_enter Tryz.func41, Tryz.ntmps41
   go_wp2
   go_ret2
   exact ⟨rfl, rfl⟩
 ·cases a <;> cases b
  all_goals
   go_enter Tryz.func41, Tryz.ntmps41
   go_wp2
   go_ret2
   exact ⟨rfl, rfl⟩
 ·cases a <;> cases b
  all_goals
   go_enter Tryz.func41, Tryz.ntmps41
   go_wp2
   go_ret2
   exact ⟨rfl, rfl⟩
 ·have HE := Lib.hid (logB_none a b hf)
  have HG := Lib.hid (show logE f = 1 from if_neg hf)
  rw [HE.out, HG.out]
  have n21 : (f == 21) = false := by rw [beq_eq_false_iff_ne]; omega
  have n22 : (f == 22) = false := by rw [beq_eq_false_iff_ne]; omega
  have n23 : (f == 23) = false := by rw [beq_eq_false_iff_ne]; omega
  have n24 : (f == 24) = false := by rw [beq_eq_false_iff_ne]; omega
  clear hf
  go_enter Tryz.func41, Tryz.ntmps41
  go_wp2
  go_ret2
  exact ⟨rfl, rfl⟩
/-- A word as a truth: how it stands to 0 and to 1. -/
theorem tr_parts {x : Nat} (h : Fnt x) : (isT x = true ∧ ((bitW x = true ∧ FloatKind.f64.format.order x 0 = some .gt ∧ FloatKind.f64.format.order x 4607182418800017408 = some .eq) ∨ (bitW x = false ∧ FloatKind.f64.format.order x 0 = some .eq ∧ FloatKind.f64.format.order x 4607182418800017408 = some .lt))) ∨
  (isT x = false ∧ ((FloatKind.f64.format.order x 0 = some .lt ∧ FloatKind.f64.format.order x 4607182418800017408 = some .lt) ∨ (FloatKind.f64.format.order x 0 = some .gt ∧ FloatKind.f64.format.order x 4607182418800017408 = some .lt) ∨ (FloatKind.f64.format.order x 0 = some .gt ∧ FloatKind.f64.format.order x 4607182418800017408 = some .gt))) := by
 have hp : (0 : Int) < pw 1074 := by have := pw_pos 1074; omega
 have h0 : V 0 = 0 := V_zero
 have h1 : V 4607182418800017408 = pw 1074 := V_one
 have f0 : Fnt 0 := ⟨by decide, by decide⟩
 have f1 : Fnt 4607182418800017408 := ⟨by decide, by decide⟩
 rcases ord_both h f0 with ⟨a, o, _⟩ | ⟨a, o, _⟩ | ⟨a, o, _⟩ <;> rcases ord_both h f1 with ⟨b, q, _⟩ | ⟨b, q, _⟩ | ⟨b, q, _⟩ <;> rw [h0] at a <;> rw [h1] at b <;> first | omega | skip
 ·exact .inr ⟨by simp [isT]; omega, .inl ⟨o, q⟩⟩
 ·exact .inl ⟨by simp [isT]; omega, .inr ⟨by simp [bitW]; omega, o, q⟩⟩
 ·exact .inr ⟨by simp [isT]; omega, .inr (.inl ⟨o, q⟩)⟩
 ·exact .inl ⟨by simp [isT]; omega, .inl ⟨by simp [bitW]; omega, o, q⟩⟩
 ·exact .inr ⟨by simp [isT]; omega, .inr (.inr ⟨o, q⟩)⟩
end Go.Proofs.YtghojndkcndjbaaGreatDoor

/- Package logic, walked: ofNumbers, Truths, ofNone. -/
namespace Go.Proofs.YtghojndkcndjbaaGreatDoor
set_option maxRecDepth 100000
open Go.RowKit Fl
set_option linter.unusedVariables false

end Go.Proofs.YtghojndkcndjbaaGreatDoor

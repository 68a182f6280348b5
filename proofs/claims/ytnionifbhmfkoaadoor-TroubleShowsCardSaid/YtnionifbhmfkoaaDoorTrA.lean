/- Walks of small functions of package trouble and its reference: Word, Raise, Through. -/
import Derived.Test.YtnionifbhmfkoaaDoorRows
import Derived.WalkKit
import Derived.WalkSpells
import Derived.WalkLawsBesides
import Derived.Lib.Hide
namespace Go.Proofs.YtnionifbhmfkoaaDoor
open Go.RowKit

/-- A class in words. -/
def wordL (c : Int) : List UInt8 :=
  bif c == 20 then [83, 89, 78, 84, 65, 88, 32, 69, 82, 82, 79, 82]
  else bif c == 21 then [86, 65, 76, 85, 69, 32, 69, 82, 82, 79, 82]
  else bif c == 22 then [82, 65, 78, 75, 32, 69, 82, 82, 79, 82]
  else bif c == 23 then [76, 69, 78, 71, 84, 72, 32, 69, 82, 82, 79, 82]
  else bif c == 24 then [68, 79, 77, 65, 73, 78, 32, 69, 82, 82, 79, 82]
  else bif c == 25 then [73, 78, 68, 69, 88, 32, 69, 82, 82, 79, 82]
  else bif c == 26 then [76, 73, 77, 73, 84, 32, 69, 82, 82, 79, 82]
  else bif c == 27 then [70, 85, 69, 76, 32, 69, 82, 82, 79, 82]
  else [69, 82, 82, 79, 82]
def wordB (c : Int) : ByteArray := ⟨(wordL c).toArray⟩

set_option maxHeartbeats 400000 in
theorem word_calls (c : Int) (w : World) :
    Calls Tryd.prog 17 #[.int .i64 c] w fun e w' => e = .returned (.string (wordB c)) ∧ w = w' := by
  go_enter Tryd.func17, Tryd.ntmps17
  go_wp2
  all_goals
    go_ret
    exact ⟨by simp only [wordB, wordL, *, cond_true, cond_false] <;> rfl, rfl⟩

theorem wordB_out (c : Int) (h : c < 20 ∨ 27 < c) : wordB c = ⟨#[69, 82, 82, 79, 82]⟩ := by
  have a : (c == 20) = false ∧ (c == 21) = false ∧ (c == 22) = false ∧ (c == 23) = false ∧ (c == 24) = false ∧ (c == 25) = false ∧ (c == 26) = false ∧ (c == 27) = false := by
    simp only [beq_eq_false_iff_ne]; omega
  simp only [wordB, wordL, a, cond_false]

set_option maxHeartbeats 1000000 in
theorem refword_calls (c : Int) (w : World) :
    Calls Tryd.prog 18 #[.int .i64 c] w fun e w' => e = .returned (.string (wordB c)) ∧ Below w.heap.size w w' := by
  by_cases h : c < 20 ∨ 27 < c
  · have hw := Lib.hid (wordB_out c h)
    rcases h with h | h
    · go_enter Tryd.func18, Tryd.ntmps18
      go_wp2
      all_goals (go_ret; exact ⟨by rw [hw.out]; rfl, (Below.refl _ _).alloc (Nat.le_refl _) _⟩)
    · have h2 : ¬ c < 20 := by omega
      go_enter Tryd.func18, Tryd.ntmps18
      go_wp2
      all_goals (go_ret; exact ⟨by rw [hw.out]; rfl, (Below.refl _ _).alloc (Nat.le_refl _) _⟩)
  · obtain rfl | rfl | rfl | rfl | rfl | rfl | rfl | rfl : c = 20 ∨ c = 21 ∨ c = 22 ∨ c = 23 ∨ c = 24 ∨ c = 25 ∨ c = 26 ∨ c = 27 := by omega
    all_goals
      clear h
      go_enter Tryd.func18, Tryd.ntmps18
      go_wp2
      go_ret
      exact ⟨rfl, (Below.refl _ _).alloc (Nat.le_refl _) _⟩

/-! Raise, Through -/
set_option maxHeartbeats 400000 in
theorem raise_ok (at' : Int) (w : World) :
    Calls Tryd.prog 28 #[.int .i64 0, .int .i64 at'] w fun e w' => e = .returned .nilIface ∧ w = w' := by
  go_enter Tryd.func28, Tryd.ntmps28
  go_wp2
  go_ret
  exact ⟨rfl, rfl⟩
set_option maxHeartbeats 400000 in
theorem raise_some (c at' : Int) (h : (c == 0) = false) (w : World) :
    Calls Tryd.prog 28 #[.int .i64 c, .int .i64 at'] w fun e w' => e = .returned (.iface 41 (.pointer (some ⟨w.heap.size, 0, none⟩))) ∧ w' = w.alloc (.cells #[.int .i64 c, .int .i64 at'] 47) := by
  go_enter Tryd.func28, Tryd.ntmps28
  go_wp2
  go_ret
  exact ⟨rfl, rfl⟩
end Go.Proofs.YtnionifbhmfkoaaDoor

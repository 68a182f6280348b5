/- Package bitvec: Unpack. -/
import Derived.Test.YtbdhibcbpgjbmaaGreatDoorBvI
namespace Go.Proofs.YtbdhibcbpgjbmaaGreatDoor
set_option maxRecDepth 100000
open Go.RowKit
set_option linter.unusedVariables false

def zeroB (W : Nat) : Array Value := madeCells (Value.bool false).cells (W * 1)
theorem own_mkB (W : Nat) (hW : W ≤ 2000000) (w : World) (base : Nat) (hb : base ≤ w.heap.size) : (w.alloc (.cells (zeroB W) 4)).ownsRow base 4 1 (.slice (some ⟨w.heap.size, 0, none⟩) W W) W (bools (List.replicate W false)) := by
 have ho := World.ownsRow_lit (e := 4) (size := 1) w (zeroB W) W hb (by unfold maxLen; omega) (size_madeCells _ _)
 have e : (zeroB W).toList = bools (List.replicate W false) := by
  rw [zeroB, show (Value.bool false).cells = #[.bool false] from rfl, toList_madeCells_one]; simp [bools]
 rw [← e]; exact ho
theorem run_mkB (W : Nat) (hW : W ≤ 2000000) (w : World) : (Instr.makeSlice 29 (.int .i64 (W : Int)) (.int .i64 (W : Int))).run Tryz.prog w = .ok (.slice (some ⟨w.heap.size, 0, none⟩) W W) (w.alloc (.cells (zeroB W) 4)) := by
 obtain ⟨i0, hi, hz0, hz1, hz2⟩ := info_parts info_bool
 have hr := run_make (P := Tryz.prog) w 29 4 i0 _ Tryz.underlying29 hi hz0 .i64 .i64 W W (by omega) (Int.le_refl _) (by rw [hz2]; omega) (by omega)
 simp only [Int.toNat_natCast, hz1] at hr
 exact hr
/-- The first k of a list, false behind. -/
def headB (l : List Bool) (k : Nat) : List Bool := (List.range l.length).map fun i => decide (i < k) && sq l i
theorem headB_zero (l : List Bool) : headB l 0 = List.replicate l.length false := by
 apply List.ext_getElem (by simp [headB]); intro i h1 h2; simp [headB]
theorem headB_all (l : List Bool) : headB l l.length = l := by
 apply List.ext_getElem (by simp [headB]); intro i h1 h2; simp [headB, h2, sq]
theorem headB_set (l : List Bool) (k : Nat) : (headB l k).set k (sq l k) = headB l (k + 1) := by
 apply List.ext_getElem (by simp [headB])
 intro i h1 h2
 rw [List.getElem_set]
 simp only [headB, List.getElem_map, List.getElem_range]
 by_cases e : k = i
 ·subst e; simp
 ·rw [if_neg e]; congr 1; rw [decide_eq_decide]; omega

end Go.Proofs.YtbdhibcbpgjbmaaGreatDoor

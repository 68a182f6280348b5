/- Package bitvec: Unpack. -/
import Derived.Test.YtlgaelndboeapaaDoorBvI
namespace Go.Proofs.YtlgaelndboeapaaDoor
open Go.RowKit
set_option linter.unusedVariables false

def zeroB (W : Nat) : Array Value := madeCells (Value.bool false).cells (W * 1)
theorem own_mkB (W : Nat) (hW : W ≤ 2000000) (w : World) (base : Nat) (hb : base ≤ w.heap.size) : (w.alloc (.cells (zeroB W) 4)).ownsRow base 4 1 (.slice (some ⟨w.heap.size, 0, none⟩) W W) W (bools (List.replicate W false)) := by
  have ho := World.ownsRow_lit (e := 4) (size := 1) w (zeroB W) W hb (by unfold maxLen; omega) (size_madeCells _ _)
  have e : (zeroB W).toList = bools (List.replicate W false) := by
    rw [zeroB, show (Value.bool false).cells = #[.bool false] from rfl, toList_madeCells_one]; simp [bools]
  rw [← e]; exact ho
theorem run_mkB (W : Nat) (hW : W ≤ 2000000) (w : World) : (Instr.makeSlice 22 (.int .i64 (W : Int)) (.int .i64 (W : Int))).run Tryd.prog w = .ok (.slice (some ⟨w.heap.size, 0, none⟩) W W) (w.alloc (.cells (zeroB W) 4)) := by
  obtain ⟨i0, hi, hz0, hz1, hz2⟩ := info_parts info_bool
  have hr := run_make (P := Tryd.prog) w 22 4 i0 _ Tryd.underlying22 hi hz0 .i64 .i64 W W (by omega) (Int.le_refl _) (by rw [hz2]; omega) (by omega)
  simp only [Int.toNat_natCast, hz1] at hr
  exact hr
/-- The first k of a list, false behind. -/
def headB (l : List Bool) (k : Nat) : List Bool := (List.range l.length).map fun i => decide (i < k) && sq l i
theorem headB_zero (l : List Bool) : headB l 0 = List.replicate l.length false := by
  apply List.ext_getElem (by simp [headB]); intro i h1 h2; simp [headB]
theorem headB_all (l : List Bool) : headB l l.length = l := by
  apply List.ext_getElem (by simp [headB]); intro i h1 h2; simp [headB, h2, sq]
theorem headB_set (l : List Bool) (k : Nat) : (headB l k).set k (sq l k) = headB l (k + 1) := by
  apply List.ext_getElem (by simp [headB])
  intro i h1 h2
  rw [List.getElem_set]
  simp only [headB, List.getElem_map, List.getElem_range]
  by_cases e : k = i
  · subst e; simp
  · rw [if_neg e]; congr 1; rw [decide_eq_decide]; omega

set_option maxHeartbeats 1000000 in
theorem unpack_slc (v : Value) (l : List Bool) (w : World) (hv : IsBits w v l) (hl : l.length ≤ 1048576) :
    Calls Tryd.prog 15 #[v] w fun e w' => ∃ v, e = .returned v ∧ Slc w' (fun b => w.heap.size ≤ b) v l.length (bools l) ∧ Below w.heap.size w w' := by
  have HV := Lib.hid hv
  obtain ⟨ao, cap, rfl, hcells⟩ := hv.opened
  obtain ⟨L, hL⟩ : ∃ L, (l.length + 63) / 64 = L := ⟨_, rfl⟩
  rw [hL] at HV ⊢
  have hmk := run_mkB l.length (by omega)
  have HM := Lib.hid hmk
  clear hcells hv hL hmk
  obtain ⟨W0, hW0⟩ : ∃ W0, W0 = (w.alloc (.cells #[.int .i64 l.length, .slice ao L cap] 33)).alloc (.cells (zeroB l.length) 4) := ⟨_, rfl⟩
  have hA0 : Hid (At2 W0 w.heap.size (.int .i64 l.length) (.slice ao L cap)) := Lib.hid (by rw [hW0]; exact (At2.new _ _ _ _).alloc _)
  have hO0 : Hid (W0.ownsRow w.heap.size 4 1 (.slice (some ⟨w.heap.size + 1, 0, none⟩) l.length l.length) l.length (bools (List.replicate l.length false))) := Lib.hid (by
    have := own_mkB l.length (by omega) (w.alloc (.cells #[.int .i64 l.length, .slice ao L cap] 33)) w.heap.size (by simp)
    rw [hW0]; simpa using this)
  have HW : Hid (Below w.heap.size w W0) := Lib.hid (by rw [hW0]; exact ((Below.refl _ _).alloc (Nat.le_refl _) _).alloc (by simp) _)
  have HZ : Hid (W0.heap.size = w.heap.size + 2) := Lib.hid (by rw [hW0]; simp)
  have hmk := HM.out (w.alloc (.cells #[.int .i64 l.length, .slice ao L cap] 33))
  go_enter Tryd.func15, Tryd.ntmps15
  go_wp2
  rw [← hW0]
  clear hW0 hmk
  go_loopw [10] (fun i wr => ∃ k : Nat, k ≤ l.length ∧ i = .int .i64 k ∧ wr.ownsRow w.heap.size 4 1 (.slice (some ⟨w.heap.size + 1, 0, none⟩) l.length l.length) l.length (bools (headB l k)) ∧ W0.grownBy wr (some (w.heap.size + 1))) (fun i _ => l.length - (intOf i).toNat)
  case atStart => exact ⟨0, by omega, rfl, by rw [headB_zero]; exact hO0.out, grown_refl _ _⟩
  case round =>
    obtain ⟨k, hk, rfl, hown, hgr⟩ := hrel
    have HO := Lib.hid hown
    have HG := Lib.hid hgr
    obtain ⟨zl, z0, z1, zf⟩ := hA0.out.grown hgr (by simp)
    have HB := Lib.hid (HW.out.grown hgr HW.out.size (fun j hj => by cases hj; omega))
    by_cases hlt : k < l.length
    · clear zf hown hgr
      go_wp2_with fail
      refine (at_calls _ l _ _ (HV.out.keep (keep_below HB.out)) hl).mono ?_
      rintro e w2 ⟨rfl, hB2⟩
      have HO2 := Lib.hid (owns_below HO.out hB2)
      have HG2 := Lib.hid (grown_trans HG.out (grown_any (below_grown hB2) _))
      have e1 : sqI l (k : Int) = sq l k := by simp [sqI]
      have hcl := owns_cell HO2.out k (by simp [bools, headB]; exact hlt)
      have hfr := World.ownsRow.frozenAt HO2.out k
      rw [e1]
      clear e1 hB2
      go_wp2
      go_roundw
      case rel =>
        refine ⟨k + 1, by omega, by go_num, ?_, grown_trans HG2.out (grown_setCell _ ⟨w.heap.size + 1, k, none⟩ _)⟩
        have := (World.ownsRow.stored HO2.out k (.bool (sq l k))).1
        rw [← headB_set]
        simpa [bools, List.map_set] using this
      case measure => simp [intOf]; omega
    · have hkl : k = l.length := by omega
      have HK := Lib.hid hkl
      clear zf hown hgr hkl
      go_wp2
      go_ret
      refine ⟨_, rfl, ?_, HB.out⟩
      have := Slc.owned HO.out
      rwa [HK.out, headB_all] at this
theorem unpack_calls (v : Value) (l : List Bool) (w : World) (hv : IsBits w v l) (hl : l.length ≤ 1048576) :
    Calls Tryd.prog 15 #[v] w fun e w' => ∃ v, e = .returned v ∧ Sl w' v l.length (bools l) ∧ Below w.heap.size w w' :=
  (unpack_slc v l w hv hl).mono fun _ _ ⟨v, h1, h2, h3⟩ => ⟨v, h1, h2.1.sl, h3⟩
end Go.Proofs.YtlgaelndboeapaaDoor

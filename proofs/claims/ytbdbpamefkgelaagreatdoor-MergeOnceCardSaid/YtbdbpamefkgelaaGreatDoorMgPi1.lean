/- Merged: PiM, PiN, PiA, PiW, PiB, PiC, PiG. -/
import Derived.Test.YtbdbpamefkgelaaGreatDoorMgVe1
import Derived.Test.YtbdbpamefkgelaaGreatDoorMgNu1
import Derived.Test.YtbdbpamefkgelaaGreatDoorMgSq1
import Derived.Test.YtbdbpamefkgelaaGreatDoorMgBv1
import Derived.Test.YtbdbpamefkgelaaGreatDoorMgFo1
import Derived.Test.YtbdbpamefkgelaaGreatDoorMgVa1
import Derived.Test.YtbdbpamefkgelaaGreatDoorMgFl1
/- Layer 15, plain: places that are turned, taken, dropped, copied, and picked along an axis. -/
namespace Go.Proofs.YtbdbpamefkgelaaGreatDoor
set_option maxRecDepth 100000
open Go.RowKit Fl
set_option linter.unusedVariables false

end Go.Proofs.YtbdbpamefkgelaaGreatDoor

/- Layer 15, plain: the whole numbers of a squeezed vector. -/
namespace Go.Proofs.YtbdbpamefkgelaaGreatDoor
set_option maxRecDepth 100000
open Go.RowKit Fl
set_option linter.unusedVariables false

theorem wn_flag (b : Bool) : Wh (flagW b) (flagZ b) := by
  cases b
  · exact wh_ofInt (by decide) (by decide +kernel)
  · exact wh_ofInt (by decide) (by decide +kernel)
theorem VV.wh_nums {V : VV} (hok : V.ok) (hn : V.nm) (h : V.isWh = true) : V.whs = V.nums.map wnOf ∧ (∀ x ∈ V.nums, ∃ n, Wh x n) ∧ ∀ z ∈ V.whs, z.natAbs ≤ 9007199254740992 := by
  have key : ∀ l : List Int, (∀ z ∈ l, z.natAbs ≤ 9007199254740992) → l = (l.map (floatOfInt .f64)).map wnOf ∧ ∀ x ∈ l.map (floatOfInt .f64), ∃ n, Wh x n := by
    intro l hl
    refine ⟨?_, ?_⟩
    · rw [List.map_map]
      conv => lhs; rw [← List.map_id l]
      exact List.map_congr_left (fun z hz => (wnOf_wh (wh_ofInt (hl z hz) rfl)).symm)
    · intro x hx
      obtain ⟨z, hz, rfl⟩ := List.mem_map.1 hx
      exact ⟨z, wh_ofInt (hl z hz) rfl⟩
  cases V with
  | bits l =>
    refine ⟨?_, ?_, ?_⟩
    · show l.map flagZ = (l.map flagW).map wnOf
      rw [List.map_map]
      exact List.map_congr_left (fun b _ => (wnOf_wh (wn_flag b)).symm)
    · intro x hx
      obtain ⟨b, _, rfl⟩ := List.mem_map.1 hx
      exact ⟨_, wn_flag b⟩
    · intro z hz
      obtain ⟨b, _, rfl⟩ := List.mem_map.1 hz
      cases b <;> decide
  | smalls l =>
    have hb : ∀ z ∈ l, z.natAbs ≤ 9007199254740992 := fun z hz => by have := hok.2 z hz; omega
    exact ⟨(key l hb).1, (key l hb).2, hb⟩
  | ints l =>
    have hb : ∀ z ∈ l, z.natAbs ≤ 9007199254740992 := fun z hz => by have := sm_of (hn z hz); omega
    exact ⟨(key l hb).1, (key l hb).2, hb⟩
  | none => simp [VV.isWh] at h
  | floats l => simp [VV.isWh] at h
  | chars l => simp [VV.isWh] at h
  | boxes l => simp [VV.isWh] at h
/-- A squeezed vector of numbers: it keeps whole numbers if they are all whole. -/
theorem sq_facts {t : List Nat} (hl : t.length ≤ 1048576) (hN : ∀ x ∈ t, Num x) : (VV.floats t).sq.ok ∧ (VV.floats t).sq.nm ∧ (VV.floats t).sq.len = t.length ∧ (VV.floats t).sq.nums = t ∧ ((VV.floats t).sq.kind = 4 → (VV.floats t).sq.len ≠ 0) := by
  obtain ⟨s1, s2, s3, s4, s5, s6⟩ := VV.sq_spec (V := VV.floats t) hl hN
  refine ⟨s4, s5, s6, s2, fun h e => ?_⟩
  rw [VV.sq_kind (V := VV.floats t) hl hN rfl] at h
  have e0 : t.length = 0 := by rw [s6] at e; exact e
  have : t = [] := List.length_eq_zero_iff.1 e0
  subst this
  rw [show (VV.floats []).nums = [] from rfl, leastW_nil] at h
  omega
end Go.Proofs.YtbdbpamefkgelaaGreatDoor

/- Layer 15, walked: has, size, Rolled, Taken, Dropped, the program's and the reference's. -/
namespace Go.Proofs.YtbdbpamefkgelaaGreatDoor
set_option maxRecDepth 100000
open Go.RowKit Fl
set_option linter.unusedVariables false

theorem info_int3 : (Tryz.prog.info? 3).map (fun i => (i.zero, i.size, i.bytes)) = some (some (.int .i64 0), 1, 8) := by kernel_rfl
theorem run_mkI3 (n : Nat) (hn : n ≤ 2000000) (w : World) : (Instr.makeSlice 24 (.int .i64 (n : Int)) (.int .i64 (n : Int))).run Tryz.prog w = .ok (.slice (some ⟨w.heap.size, 0, none⟩) n n) (w.alloc (.cells (zerosV (.int .i64 0) n) 3)) := by
  obtain ⟨i0, hi, hz0, hz1, hz2⟩ := info_parts info_int3
  have hr := run_make (P := Tryz.prog) w 24 3 i0 _ Tryz.underlying24 hi hz0 .i64 .i64 n n (by omega) (Int.le_refl _) (by rw [hz2]; omega) (by omega)
  simp only [Int.toNat_natCast, hz1] at hr
  exact hr
end Go.Proofs.YtbdbpamefkgelaaGreatDoor

/- Layer 15, walked: slices.Repeat of one whole number. -/
namespace Go.Proofs.YtbdbpamefkgelaaGreatDoor
set_option maxRecDepth 100000
open Go.RowKit
set_option linter.unusedVariables false

end Go.Proofs.YtbdbpamefkgelaaGreatDoor

/- Layer 15, walked: integers, fit, Copies. -/
namespace Go.Proofs.YtbdbpamefkgelaaGreatDoor
set_option maxRecDepth 100000
open Go.RowKit Fl
set_option linter.unusedVariables false

end Go.Proofs.YtbdbpamefkgelaaGreatDoor

/- Layer 15's laws: awake. -/
namespace Go.Proofs.YtbdbpamefkgelaaGreatDoor
set_option maxRecDepth 100000
open Go.RowKit Fl
set_option linter.unusedVariables false

end Go.Proofs.YtbdbpamefkgelaaGreatDoor

/- Layer 15: a part of a plain array. -/
namespace Go.Proofs.YtbdbpamefkgelaaGreatDoor
set_option maxRecDepth 100000
open Go.RowKit Fl
set_option linter.unusedVariables false

theorem len_chk {d : Nat} {p : PA} (h : chk (d + 1) p = 0) : p.l.length ≤ 1048576 := by
  have h1 := (chk_well.1 h).2.2.1
  exact (prodR_len h1).2
end Go.Proofs.YtbdbpamefkgelaaGreatDoor

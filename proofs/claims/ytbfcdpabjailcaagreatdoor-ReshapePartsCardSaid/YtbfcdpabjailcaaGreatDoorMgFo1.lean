/- Merged: FoW. -/
import Derived.Lib.BitFns
import Derived.Laws.CopyOwn
import Derived.Deep.DeepMust
import Derived.Test.YtbfcdpabjailcaaGreatDoorMgVe1
/- Layer 13, walked: bits.Mul by one, slices.Repeat of one number. -/
namespace Go.Proofs.YtbfcdpabjailcaaGreatDoor
set_option maxRecDepth 100000
open Go.RowKit
set_option linter.unusedVariables false

theorem bmul64_calls (c : Nat) (hc : c ≤ 1048576) (w : World) : Calls Tryz.prog 120 #[.int .u64 1, .int .u64 (c : Int)] w fun e w' => e = .returned (.tuple #[.int .u64 0, .int .u64 (c : Int)]) ∧ w = w' := by
  have a1 : bits BinOp.and IntKind.u64 1 4294967295 = 1 := by decide +kernel
  have a2 : bits BinOp.and IntKind.u64 (c : Int) 4294967295 = (c : Int) := by
    have h := u64_and_nat c 4294967295 (by omega) (by decide)
    have e : c &&& 4294967295 = c := by
      have := Nat.and_two_pow_sub_one_eq_mod c 32
      rw [show (2 : Nat) ^ 32 - 1 = 4294967295 by decide] at this
      rw [this]; exact Nat.mod_eq_of_lt (by omega)
    rw [e] at h
    exact h
  have a3 : ((c : Int) / 4294967296) = 0 := by omega
  go_enter Tryz.func120, Tryz.ntmps120
  go_wp2
  go_ret2
  exact ⟨rfl, rfl⟩
theorem bmul_calls (c : Nat) (hc : c ≤ 1048576) (w : World) : Calls Tryz.prog 93 #[.int .u64 1, .int .u64 (c : Int)] w fun e w' => e = .returned (.tuple #[.int .u64 0, .int .u64 (c : Int)]) ∧ w = w' := by
  have HC := Lib.hid hc
  go_enter Tryz.func93, Tryz.ntmps93
  go_wp2_with ((with_reducible refine (bmul64_calls c HC.out _).mono ?_); rintro e w' ⟨rfl, rfl⟩)
  go_ret2
  exact ⟨rfl, rfl⟩
theorem lt_heap {w : World} {g : Nat} {o : Obj} (h : w.heap[g]? = some o) : g < w.heap.size := (Array.getElem?_eq_some_iff.1 h).1
theorem row_cell {w : World} {g j : Nat} {l : List Value} {t : TypeId} {u : Value} (h : w.heap[g]? = some (.cells l.toArray t (0, 0))) (hj : l[j]? = some u) : w.cell? ⟨g, j, none⟩ = some u := by
  simp [World.cell?, h, hj]
theorem add_cell {w : World} {b off j : Nat} {u : Value} (h : w.cell? ⟨b, off + j, none⟩ = some u) : w.cell? ((⟨b, off, none⟩ : Addr).add j) = some u := by
  by_cases h0 : j = 0
  · subst h0; simpa [Addr.add] using h
  · simpa [Addr.add, h0] using h
end Go.Proofs.YtbfcdpabjailcaaGreatDoor

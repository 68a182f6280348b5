/- Package flat, walked: flags, joined. -/
import Derived.Test.YtbdhibcbpgjbmaaGreatDoorFlW
namespace Go.Proofs.YtbdhibcbpgjbmaaGreatDoor
set_option maxRecDepth 100000
open Go.RowKit Fl
set_option linter.unusedVariables false

theorem row_set {xs : List Value} {z x : Value} {k n : Nat} (hx : xs.length = k) (hk : k < n) : (xs ++ List.replicate (n - k) z).set k x = (xs ++ [x]) ++ List.replicate (n - (k + 1)) z := by
 have e : n - k = (n - (k + 1)) + 1 := by omega
 rw [List.set_append_right _ _ (by omega), hx, Nat.sub_self, e, List.replicate_succ, List.set_cons_zero, List.append_assoc]
 rfl

theorem info_slF : (Tryz.prog.info? 52).map (fun i => (i.zero, i.size, i.bytes)) = some (some (.slice none 0 0), 1, 24) := by kernel_rfl
theorem info_slC : (Tryz.prog.info? 102).map (fun i => (i.zero, i.size, i.bytes)) = some (some (.slice none 0 0), 1, 24) := by kernel_rfl
theorem info_slB : (Tryz.prog.info? 29).map (fun i => (i.zero, i.size, i.bytes)) = some (some (.slice none 0 0), 1, 24) := by kernel_rfl
end Go.Proofs.YtbdhibcbpgjbmaaGreatDoor

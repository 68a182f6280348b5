/- Package flat, walked: Pick; the rules of places. -/
import Derived.Test.YtbdhibcbpgjbmaaGreatDoorFlD
namespace Go.Proofs.YtbdhibcbpgjbmaaGreatDoor
set_option maxRecDepth 100000
open Go.RowKit Fl
set_option linter.unusedVariables false

theorem cutR_calls (b : Nat) (x i : Int) (w : World) (hb : w.cell? ⟨b, 0, none⟩ = some (.int .i64 x)) (h1 : 0 ≤ x) (h2 : x ≤ 4000000) (h3 : 0 ≤ i) (h4 : i ≤ 4000000) :
  Calls Tryz.prog 108 #[.int .i64 i, .pointer (some ⟨b, 0, none⟩)] w fun e w' => e = .returned (.int .i64 (x + i)) ∧ w = w' := by
 go_enter Tryz.func108, Tryz.ntmps108
 go_wp2_with fail
 go_ret
 exact ⟨rfl, rfl⟩
end Go.Proofs.YtbdhibcbpgjbmaaGreatDoor

/- Package shape, walked: At. -/
import Derived.Test.YtbdhibcbpgjbmaaGreatDoorShT
namespace Go.Proofs.YtbdhibcbpgjbmaaGreatDoor
open Go.RowKit
set_option linter.unusedVariables false
set_option maxRecDepth 100000

theorem ret_at {s t : List Int} {a : Int} {b : Bool} (h1 : atG s t = a) (h2 : decide (0 ≤ placeR s t) = b) : Ending.returned (.tuple #[.int .i64 a, .bool b]) = .returned (.tuple #[.int .i64 (atG s t), .bool (decide (0 ≤ placeR s t))]) := by rw [h1, h2]
theorem ret_miss {s t : List Int} (h : placeR s t = -1) : Ending.returned (.tuple #[.int .i64 0, .bool false]) = .returned (.tuple #[.int .i64 (atG s t), .bool (decide (0 ≤ placeR s t))]) := by
 unfold atG; rw [h]; rfl
theorem ret_hit {s t : List Int} {p : Int} (h : placeR s t = p) (h0 : 0 ≤ p) : Ending.returned (.tuple #[.int .i64 p, .bool true]) = .returned (.tuple #[.int .i64 (atG s t), .bool (decide (0 ≤ placeR s t))]) := by
 unfold atG; rw [h, if_pos h0, decide_eq_true h0]

end Go.Proofs.YtbdhibcbpgjbmaaGreatDoor

/- Package vec, walked: None; the reference's Runes, Same, Small. -/
import Derived.Test.YtkgjemglmgdanaaDoorVeM
namespace Go.Proofs.YtkgjemglmgdanaaDoor
open Go.RowKit Fl
set_option linter.unusedVariables false
set_option maxRecDepth 4000

theorem vbits_exact (n : Int) (ao : Option Addr) (m cap : Nat) (w : World) :
    Calls Tryd.prog 36 #[.agg #[.int .i64 n, .slice ao m cap]] w fun e w' => e = .returned (.agg #[.iface 57 (.agg #[.int .i64 n, .slice ao m cap])]) ∧ Below w.heap.size w w' := by
  go_enter Tryd.func36, Tryd.ntmps36
  go_wp2
  exact bodyPost_ret (v := .agg #[.iface 57 (.agg #[.int .i64 n, .slice ao m cap])]) (by simp [results, Tryd.results36, go_sem]) rfl ⟨rfl, (below_new _ _).alloc (by simp) _⟩
/-- No elements of a class. -/
def noneV (c : Int) : VV := if c = 1 then .chars [] else if c = 2 then .boxes [] else .bits []
end Go.Proofs.YtkgjemglmgdanaaDoor

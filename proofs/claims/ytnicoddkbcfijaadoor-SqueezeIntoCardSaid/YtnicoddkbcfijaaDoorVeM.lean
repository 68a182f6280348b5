/- Package vec, walked: Boxes, Box, Arrays, None. -/
import Derived.Test.YtnicoddkbcfijaaDoorVeL
namespace Go.Proofs.YtnicoddkbcfijaaDoor
open Go.RowKit
set_option linter.unusedVariables false
set_option maxRecDepth 4000

theorem vboxes_calls {ok : Nat → Prop} (v : Value) (l : List (List Int × VV)) (w : World) (hv : Arrs w ok v l) (hm : l.length ≤ 1048576) (hs : ∀ p ∈ l, p.1.length ≤ 1048576) :
    Calls Tryd.prog 21 #[v] w fun e w' => ∃ u, e = .returned (.agg #[u]) ∧ IsV w' (fun b => (ok b ∧ b < w.heap.size) ∨ w.heap.size ≤ b) u (.boxes l) ∧ Below w.heap.size w w' := by
  have HV := Lib.hid (hv.keep (Kept.below (below_new w (.cells #[.nilIface] 27))) (ok' := fun b => ok b ∧ b < w.heap.size) (fun b h1 h2 => ⟨h2, h1⟩))
  obtain ⟨ao, cap, f, g, rfl, _⟩ := hv
  go_enter Tryd.func21, Tryd.ntmps21
  go_wp2_with fail
  refine (clones_calls _ l _ HV.out hm hs).mono ?_
  rintro e w1 ⟨v1, rfl, hs1, hB⟩
  obtain ⟨_, a0, af⟩ := (At1.new w .nilIface 27).below hB
  have af0 := af 0
  have HS := Lib.hid hs1
  have HB := Lib.hid ((below_new w (.cells #[.nilIface] 27)).trans (hB.mono (by simp)))
  clear hs1 hB af
  go_wp2
  refine bodyPost_ret (v := .agg #[.iface 47 v1]) (by simp [results, Tryd.results21, go_sem, a0]) rfl ⟨_, rfl, ?_, below_set1 _ HB.out (Nat.le_refl _)⟩
  refine (HS.out.keep (Kept.setCell _ _ _ ?_) ?_).boxes
  · simp
  · intro b _ h
    rcases h with h | h
    · exact .inl h
    · exact .inr (by simp at h; omega)

def VV.boxs : VV → List (List Int × VV)
  | .boxes l => l | _ => []
/-- sh, u are the array p. -/
def IsArr (w : World) (ok : Nat → Prop) (sh u : Value) (p : List Int × VV) : Prop := Slc w ok sh p.1.length (ints p.1) ∧ IsV w ok u p.2
theorem IsArr.none (w : World) (ok : Nat → Prop) : IsArr w ok (.slice Option.none 0 0) .nilIface ([], .none) := ⟨Slc.nil _ _, .none⟩
theorem IsV.arrs {w : World} {ok : Nat → Prop} {s : Value} {l : List (List Int × VV)} (h : IsV w ok (.iface 47 s) (.boxes l)) : Arrs w ok s l := by
  cases h with
  | boxes f g h1 h2 hc hs hv => exact ⟨_, _, f, g, rfl, h1, h2, hc, hs, hv⟩

end Go.Proofs.YtnicoddkbcfijaaDoor

/- Layer 18, walked: the function value of law MergeSorts. -/
import Derived.Test.YtbdbpamefkgelaaGreatDoorMgA
namespace Go.Proofs.YtbdbpamefkgelaaGreatDoor
set_option maxRecDepth 100000
open Go.RowKit Fl
set_option linter.unusedVariables false

set_option maxHeartbeats 8000000 in
theorem mgs1_calls {ok : Nat → Prop} (v : Value) (b : Nat) (keys : List Nat) (n i k x y : Nat) (w : World) (hb : At1 w b v) (hv : Slc w ok v n (u8m keys)) (hn : keys.length = n) (hm : n ≤ 300) (hx : keys[i]? = some x) (hy : keys[k]? = some y) :
    Calls Tryz.prog 9 #[.int .i64 (i : Int), .int .i64 (k : Int), .pointer (some ⟨b, 0, none⟩)] w fun e w' => e = .returned (.bool (decide (x < y))) ∧ Below w.heap.size w w' := by
  have hin : i < n := by rw [← hn]; exact (List.getElem?_eq_some_iff.1 hx).1
  have hkn : k < n := by rw [← hn]; exact (List.getElem?_eq_some_iff.1 hy).1
  obtain ⟨b1, o1, c1, x1, e9, hx1, hcx⟩ := Slc.at_map (fun z : Nat => Value.int .u8 (z : Int)) (l := keys) (by rw [hn]; exact hv) i (by rw [hn]; exact hin)
  rw [hn] at e9
  subst e9
  obtain ⟨b2, o2, c2, y1, e9, hy1, hcy⟩ := Slc.at_map (fun z : Nat => Value.int .u8 (z : Int)) (l := keys) (by rw [hn]; exact hv) k (by rw [hn]; exact hkn)
  rw [hn] at e9
  cases e9
  obtain rfl : x1 = x := Option.some.inj (hx1.symm.trans hx)
  obtain rfl : y1 = y := Option.some.inj (hy1.symm.trans hy)
  have hcell := hb.2.1
  clear hv hb hx hy hx1 hy1 hn
  by_cases h : x1 < y1
  · go_enter Tryz.func9, Tryz.ntmps9
    go_wp2
    go_region
    go_wp2
    go_ret
    exact ⟨by simp [h], Below.drewN' (Below.refl _ _) 1⟩
  · go_enter Tryz.func9, Tryz.ntmps9
    go_wp2
    go_region
    go_wp2
    go_ret
    exact ⟨by simp [h], Below.drewN' (Below.refl _ _) 1⟩
end Go.Proofs.YtbdbpamefkgelaaGreatDoor

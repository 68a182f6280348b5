/- Package vec, walked: None; the reference's Runes, Same, Small. -/
import Derived.Test.YtbdhibcbpgjbmaaGreatDoorVeM
namespace Go.Proofs.YtbdhibcbpgjbmaaGreatDoor
open Go.RowKit Fl
set_option linter.unusedVariables false
set_option maxRecDepth 100000

theorem vbits_exact (n : Int) (ao : Option Addr) (m cap : Nat) (w : World) :
  Calls Tryz.prog 46 #[.agg #[.int .i64 n, .slice ao m cap]] w fun e w' => e = .returned (.agg #[.iface 81 (.agg #[.int .i64 n, .slice ao m cap])]) ∧ Below w.heap.size w w' := by
 go_enter Tryz.func46, Tryz.ntmps46
 go_wp2
 exact bodyPost_ret (v := .agg #[.iface 81 (.agg #[.int .i64 n, .slice ao m cap])]) (by simp [results, Tryz.results46, go_sem]) rfl ⟨rfl, (below_new _ _).alloc (by simp) _⟩
/-- No elements of a class. -/
def noneV (c : Int) : VV := if c = 1 then .chars [] else if c = 2 then .boxes [] else .bits []
set_option maxHeartbeats 1000000 in
theorem vnone_calls (c : Int) (w : World) : Calls Tryz.prog 143 #[.int .i64 c] w fun e w' => ∃ u, e = .returned (.agg #[u]) ∧ IsV w' (fun b => w.heap.size ≤ b) u (noneV c) ∧ Below w.heap.size w w' := by
 by_cases h1 : c = 1
 ·subst h1
  go_enter Tryz.func143, Tryz.ntmps143
  go_wp2_with fail
  refine (vchars_calls (ok := fun _ => False) _ [] _ (Slc.nil _ _) (by simp)).mono ?_
  rintro e w1 ⟨u, rfl, hs1, hB⟩
  obtain ⟨_, a0, af⟩ := (At1.new w .nilIface 36).below hB
  have af0 := af 0
  have hshape := hs1.shape
  have HS := Lib.hid hs1
  have HB := Lib.hid ((below_new w (.cells #[.nilIface] 36)).trans (hB.mono (by simp)))
  clear hs1 hB af
  unfold IsIface at hshape
  rcases hshape with rfl | ⟨t, x, rfl⟩
  ·go_wp2
   refine bodyPost_ret (v := .agg #[.nilIface]) (by simp [results, Tryz.results143, go_sem, a0]) rfl ⟨_, rfl, ?_, below_set1 _ HB.out (Nat.le_refl _)⟩
   exact HS.out.keep (Kept.setCell _ _ _ (by simp)) (fun b _ h => by simp at h; omega)
  ·go_wp2
   refine bodyPost_ret (v := .agg #[.iface t x]) (by simp [results, Tryz.results143, go_sem, a0]) rfl ⟨_, rfl, ?_, below_set1 _ HB.out (Nat.le_refl _)⟩
   exact HS.out.keep (Kept.setCell _ _ _ (by simp)) (fun b _ h => by simp at h; omega)
 ·by_cases h2 : c = 2
  ·subst h2
   go_enter Tryz.func143, Tryz.ntmps143
   go_wp2_with fail
   refine (vboxes_calls (ok := fun _ => False) _ [] _ (Arrs.nil _ _) (by simp) (by simp)).mono ?_
   rintro e w1 ⟨u, rfl, hs1, hB⟩
   obtain ⟨_, a0, af⟩ := (At1.new w .nilIface 36).below hB
   have af0 := af 0
   have hshape := hs1.shape
   have HS := Lib.hid hs1
   have HB := Lib.hid ((below_new w (.cells #[.nilIface] 36)).trans (hB.mono (by simp)))
   clear hs1 hB af
   unfold IsIface at hshape
   rcases hshape with rfl | ⟨t, x, rfl⟩
   ·go_wp2
    refine bodyPost_ret (v := .agg #[.nilIface]) (by simp [results, Tryz.results143, go_sem, a0]) rfl ⟨_, rfl, ?_, below_set1 _ HB.out (Nat.le_refl _)⟩
    exact HS.out.keep (Kept.setCell _ _ _ (by simp)) (fun b _ h => by simp at h; omega)
   ·go_wp2
    refine bodyPost_ret (v := .agg #[.iface t x]) (by simp [results, Tryz.results143, go_sem, a0]) rfl ⟨_, rfl, ?_, below_set1 _ HB.out (Nat.le_refl _)⟩
    exact HS.out.keep (Kept.setCell _ _ _ (by simp)) (fun b _ h => by simp at h; omega)
  ·have hn : Hid (noneV c = .bits []) := Lib.hid (by unfold noneV; rw [if_neg h1, if_neg h2])
   have h1' : (c == 1) = false := by simpa using h1
   have h2' : (c == 2) = false := by simpa using h2
   clear h1 h2
   go_enter Tryz.func143, Tryz.ntmps143
   go_wp2_with fail
   refine (vbits_exact _ _ _ _ _).mono ?_
   rintro e w1 ⟨rfl, hB⟩
   obtain ⟨_, a0, af⟩ := (At1.new w .nilIface 36).below hB
   have af0 := af 0
   have HB := Lib.hid ((below_new w (.cells #[.nilIface] 36)).trans (hB.mono (by simp)))
   clear hB af
   go_wp2
   refine bodyPost_ret (v := .agg #[.iface 81 (.agg #[.int .i64 0, .slice Option.none 0 0])]) (by simp [results, Tryz.results143, go_sem, a0]) rfl ⟨_, rfl, ?_, below_set1 _ HB.out (Nat.le_refl _)⟩
   rw [hn.out]
   exact .bits (l := []) ⟨rfl, _, _, rfl, fun i hi => absurd hi (by simp [words, bws, u64s])⟩ (by simp)


end Go.Proofs.YtbdhibcbpgjbmaaGreatDoor

/- Package vec, walked: Ints, Floats. -/
import Derived.Test.YtbdhibcbpgjbmaaGreatDoorVeD
namespace Go.Proofs.YtbdhibcbpgjbmaaGreatDoor
open Go.RowKit
set_option linter.unusedVariables false
set_option maxRecDepth 100000

theorem all_take_step {α : Type} {p : α → Bool} {l : List α} {k : Nat} (h : k < l.length) (h1 : (l.take k).all p = true) (h2 : p (l[k]'h) = true) : (l.take (k + 1)).all p = true := by
 rw [List.take_succ_eq_append_getElem h, List.all_append, h1]; simp [h2]
theorem all_at_false {α : Type} {p : α → Bool} {l : List α} {k : Nat} (h : k < l.length) (h2 : p (l[k]'h) = false) : l.all p = false := by
 rw [List.all_eq_false]; exact ⟨_, List.getElem_mem h, by simp [h2]⟩
theorem all_take_all {α : Type} {p : α → Bool} {l : List α} (h1 : (l.take l.length).all p = true) : l.all p = true := by rwa [List.take_length] at h1
theorem sm_false_lt {n : Int} (h : n < -9007199254740992) : sm n = false := sm_no (Or.inl h)
theorem sm_false_gt {n : Int} (h : 9007199254740992 < n) : sm n = false := sm_no (Or.inr h)

set_option maxHeartbeats 1000000 in
theorem vints_yes {ok : Nat → Prop} (v : Value) (l : List Int) (w : World) (hv : Slc w ok v l.length (ints l)) (hm : l.length ≤ 2000000) (hsm : l.all sm = true) :
  Calls Tryz.prog 51 #[v] w fun e w' => ∃ u, e = .returned (.tuple #[.agg #[u], .bool true]) ∧ IsV w' (fun b => w.heap.size ≤ b) u (.ints l) ∧ Below w.heap.size w w' := by
 have HV := Lib.hid hv; have HQ := Lib.hid hsm; clear hsm
 obtain ⟨ao, cap, rfl, _, _, _, hc⟩ := hv.opened
 have HC := Lib.hid hc; clear hv hc
 obtain ⟨W0, hW0⟩ : ∃ W0, W0 = w.alloc (.cells #[.nilIface] 36) := ⟨_, rfl⟩
 have HW := Lib.hid (show Below w.heap.size w W0 by rw [hW0]; exact below_new _ _)
 have HA := Lib.hid (show At1 W0 w.heap.size .nilIface by rw [hW0]; exact At1.new _ _ _)
 have HS := Lib.hid (show W0.heap.size = w.heap.size + 1 by rw [hW0]; simp)
 go_enter Tryz.func51, Tryz.ntmps51
 go_wp2
 rw [← hW0]
 clear hW0
 go_loopw [8] (fun i wr => ∃ k : Nat, k ≤ l.length ∧ i = .int .i64 k ∧ wr = W0 ∧ (l.take k).all sm = true) (fun i _ => l.length - (intOf i).toNat)
 case atStart => exact ⟨0, by omega, rfl, rfl, rfl⟩
 case round =>
  obtain ⟨k, hk, rfl, rfl, hall⟩ := hrel
  have HL := Lib.hid hall; clear hall
  by_cases hlt : k < l.length
  ·obtain ⟨b, off, rfl, _, hcl0⟩ := HC.out k (by rw [ints_len]; exact hlt)
   have hcl := keep_below HW.out _ _ hcl0
   rw [ints_get] at hcl
   obtain ⟨z, hz⟩ : ∃ z : Int, z = l[k]'hlt := ⟨_, rfl⟩
   rw [← hz] at hcl
   have HZ := Lib.hid hz; clear hz hcl0
   have hz2 := List.all_eq_true.1 HQ.out z (by rw [HZ.out]; exact List.getElem_mem hlt)
   have hf := Lib.hid (all_take_step (p := sm) hlt HL.out (by rw [← HZ.out]; exact hz2))
   obtain ⟨h1, h2⟩ := sm_of hz2
   have h1' : ¬ z < -9007199254740992 := by omega
   have h2' : ¬ 9007199254740992 < z := by omega
   clear hz2
   go_wp2
   go_roundw
   case rel => exact ⟨k + 1, by omega, by go_num, by trivial, hf.out⟩
   case measure => simp [intOf]; omega
  ·clear hk
   go_wp2_with fail
   refine (CloneI64_calls _ l _ (HV.out.below HW.out) hm).mono ?_
   rintro e w1 ⟨v1, rfl, hs, hB⟩
   obtain ⟨_, a0, af⟩ := HA.out.below hB
   have af0 := af 0
   have HS1 := Lib.hid hs
   have HB := Lib.hid (HW.out.trans (hB.mono (by rw [HS.out]; omega)))
   clear hs hB af
   go_wp2
   refine bodyPost_ret (v := .tuple #[.agg #[.iface 89 v1], .bool true]) (by simp [results, Tryz.results51, go_sem, a0]) rfl ⟨_, rfl, ?_, below_set1 _ HB.out (Nat.le_refl _)⟩
   exact .ints (HS1.out.keep (Kept.setCell _ _ _ (by rw [HS.out]; simp)) (fun b _ h => by rw [HS.out] at h; omega))
set_option maxHeartbeats 1000000 in
theorem vints_no {ok : Nat → Prop} (v : Value) (l : List Int) (w : World) (hv : Slc w ok v l.length (ints l)) (hm : l.length ≤ 2000000) (hsm : l.all sm = false) :
  Calls Tryz.prog 51 #[v] w fun e w' => ∃ u, e = .returned (.tuple #[.agg #[u], .bool false]) ∧ IsV w' (fun b => w.heap.size ≤ b) u (.none) ∧ Below w.heap.size w w' := by
 have HV := Lib.hid hv; have HQ := Lib.hid hsm; clear hsm
 obtain ⟨ao, cap, rfl, _, _, _, hc⟩ := hv.opened
 have HC := Lib.hid hc; clear hv hc
 obtain ⟨W0, hW0⟩ : ∃ W0, W0 = w.alloc (.cells #[.nilIface] 36) := ⟨_, rfl⟩
 have HW := Lib.hid (show Below w.heap.size w W0 by rw [hW0]; exact below_new _ _)
 have HA := Lib.hid (show At1 W0 w.heap.size .nilIface by rw [hW0]; exact At1.new _ _ _)
 have HS := Lib.hid (show W0.heap.size = w.heap.size + 1 by rw [hW0]; simp)
 go_enter Tryz.func51, Tryz.ntmps51
 go_wp2
 rw [← hW0]
 clear hW0
 go_loopw [8] (fun i wr => ∃ k : Nat, k ≤ l.length ∧ i = .int .i64 k ∧ wr = W0 ∧ (l.take k).all sm = true) (fun i _ => l.length - (intOf i).toNat)
 case atStart => exact ⟨0, by omega, rfl, rfl, rfl⟩
 case round =>
  obtain ⟨k, hk, rfl, rfl, hall⟩ := hrel
  have HL := Lib.hid hall; clear hall
  by_cases hlt : k < l.length
  ·obtain ⟨b, off, rfl, _, hcl0⟩ := HC.out k (by rw [ints_len]; exact hlt)
   have hcl := keep_below HW.out _ _ hcl0
   rw [ints_get] at hcl
   obtain ⟨z, hz⟩ : ∃ z : Int, z = l[k]'hlt := ⟨_, rfl⟩
   rw [← hz] at hcl
   have HZ := Lib.hid hz; clear hz hcl0
   by_cases hs : sm z = true
   ·have hf := Lib.hid (all_take_step (p := sm) hlt HL.out (by rw [← HZ.out]; exact hs))
    obtain ⟨h1, h2⟩ := sm_of hs
    have h1' : ¬ z < -9007199254740992 := by omega
    have h2' : ¬ 9007199254740992 < z := by omega
    clear hs
    go_wp2
    go_roundw
    case rel => exact ⟨k + 1, by omega, by go_num, by trivial, hf.out⟩
    case measure => simp [intOf]; omega
   ·have hs' : sm z = false := by simpa using hs
    clear hs
    obtain ⟨_, a0, af⟩ := HA.out
    have af0 := af 0
    clear af
    rcases Int.lt_or_le z (-9007199254740992) with h1 | h1
    ·clear hs'
     go_wp2
     exact bodyPost_ret (v := .tuple #[.agg #[.nilIface], .bool false]) (by simp [results, Tryz.results51, go_sem, a0]) rfl ⟨_, rfl, .none, below_set1 _ HW.out (Nat.le_refl _)⟩
    ·have h2 : 9007199254740992 < z := by have := sm_not hs'; omega
     clear hs'
     go_wp2
     exact bodyPost_ret (v := .tuple #[.agg #[.nilIface], .bool false]) (by simp [results, Tryz.results51, go_sem, a0]) rfl ⟨_, rfl, .none, below_set1 _ HW.out (Nat.le_refl _)⟩
  ·have hkl : k = l.length := by omega
   have := all_take_all (p := sm) (by rw [← hkl]; exact HL.out)
   rw [HQ.out] at this
   cases this
end Go.Proofs.YtbdhibcbpgjbmaaGreatDoor

/- Package shape, walked: Product, Good; slices.ContainsFunc, slices.Contains. -/
import Derived.Test.YtbdhibcbpgjbmaaGreatDoorShP
namespace Go.Proofs.YtbdhibcbpgjbmaaGreatDoor
open Go.RowKit
set_option linter.unusedVariables false
set_option maxRecDepth 100000

theorem sneg_calls (x : Int) (w : World) : Calls Tryz.prog 116 #[.int .i64 x] w fun e w' => e = .returned (.bool (decide (x < 0))) ∧ w = w' := by
 go_enter Tryz.func116, Tryz.ntmps116
 go_wp2
 go_ret
 exact ⟨rfl, rfl⟩

set_option maxHeartbeats 1000000 in
theorem sindexf_calls {ok : Nat → Prop} (v : Value) (s : List Int) (w : World) (hv : Slc w ok v s.length (ints s)) (hl : s.length ≤ 9223372036854775807) :
  Calls Tryz.prog 136 #[v, .func (.func 116) #[] #[]] w fun e w' => ∃ r : Int, e = .returned (.int .i64 r) ∧ decide (0 ≤ r) = anyN s ∧ w = w' := by
 have HV := Lib.hid hv
 obtain ⟨ao, cap, rfl, _⟩ := hv.opened
 clear hv
 go_enter Tryz.func136, Tryz.ntmps136
 go_wp2
 go_loopw [8] (fun i wr => ∃ k : Nat, k ≤ s.length ∧ i = .int .i64 k ∧ wr = w ∧ anyN (s.take k) = false) (fun i _ => s.length - (intOf i).toNat)
 case atStart => exact ⟨0, by omega, rfl, rfl, rfl⟩
 case round =>
  obtain ⟨k, hk, rfl, rfl, hN⟩ := hrel
  have HN := Lib.hid hN; clear hN
  by_cases hlt : k < s.length
  ·obtain ⟨b, off, cap', x, e1, hx, hcx⟩ := slc_at (Value.int .i64) (show Slc _ ok (.slice ao s.length cap) s.length (s.map (Value.int .i64)) from HV.out) k hlt
   obtain ⟨e1a, e1b⟩ : ao = some ⟨b, off, none⟩ ∧ cap = cap' := by cases e1; exact ⟨rfl, rfl⟩
   subst e1a
   have HX := Lib.hid hx; clear hx e1 e1b
   by_cases hneg : x < 0
   ·have HP := Lib.hid (anyN_hit HX.out hneg)
    have HD := Lib.hid (decide_eq_true hneg)
    clear hneg
    go_wp2_with fail
    refine (sneg_calls _ _).mono ?_
    rintro e w' ⟨rfl, rfl⟩
    rw [HD.out]
    go_wp2
    go_ret
    exact ⟨_, rfl, by rw [HP.out]; exact decide_eq_true (by omega), rfl⟩
   ·have HN2 := Lib.hid (show anyN (s.take (k + 1)) = false by rw [anyN_take HX.out, HN.out]; simpa using hneg)
    have HD := Lib.hid (decide_eq_false hneg)
    clear hneg
    go_wp2_with fail
    refine (sneg_calls _ _).mono ?_
    rintro e w' ⟨rfl, rfl⟩
    rw [HD.out]
    go_wp2
    go_roundw
    case rel => exact ⟨k + 1, by omega, by go_num, by trivial, HN2.out⟩
    case measure => simp [intOf]; omega
  ·have hkl : k = s.length := by omega
   have HNN := Lib.hid (show anyN s = false by have := HN.out; rwa [hkl, List.take_length] at this)
   clear hkl
   go_wp2
   go_ret
   exact ⟨_, rfl, by rw [HNN.out]; rfl, rfl⟩
theorem scontf_calls {ok : Nat → Prop} (v : Value) (s : List Int) (w : World) (hv : Slc w ok v s.length (ints s)) (hl : s.length ≤ 9223372036854775807) :
  Calls Tryz.prog 115 #[v, .func (.func 116) #[] #[]] w fun e w' => e = .returned (.bool (anyN s)) ∧ w = w' := by
 have HV := Lib.hid hv; clear hv
 go_enter Tryz.func115, Tryz.ntmps115
 go_wp2_with fail
 refine (sindexf_calls _ s _ HV.out hl).mono ?_
 rintro e w1 ⟨r, rfl, hr, rfl⟩
 have HR := Lib.hid hr; clear hr
 go_wp2
 go_ret
 exact ⟨ret_b HR.out, rfl⟩

set_option maxHeartbeats 1000000 in
theorem sindexz_calls {ok : Nat → Prop} (v : Value) (s : List Int) (w : World) (hv : Slc w ok v s.length (ints s)) (hl : s.length ≤ 9223372036854775807) :
  Calls Tryz.prog 137 #[v, .int .i64 0] w fun e w' => ∃ r : Int, e = .returned (.int .i64 r) ∧ decide (0 ≤ r) = anyZ s ∧ w = w' := by
 have HV := Lib.hid hv
 obtain ⟨ao, cap, rfl, _⟩ := hv.opened
 clear hv
 go_enter Tryz.func137, Tryz.ntmps137
 go_wp2
 go_loopw [8] (fun i wr => ∃ k : Nat, k ≤ s.length ∧ i = .int .i64 k ∧ wr = w ∧ anyZ (s.take k) = false) (fun i _ => s.length - (intOf i).toNat)
 case atStart => exact ⟨0, by omega, rfl, rfl, rfl⟩
 case round =>
  obtain ⟨k, hk, rfl, rfl, hN⟩ := hrel
  have HN := Lib.hid hN; clear hN
  by_cases hlt : k < s.length
  ·obtain ⟨b, off, cap', x, e1, hx, hcx⟩ := slc_at (Value.int .i64) (show Slc _ ok (.slice ao s.length cap) s.length (s.map (Value.int .i64)) from HV.out) k hlt
   obtain ⟨e1a, e1b⟩ : ao = some ⟨b, off, none⟩ ∧ cap = cap' := by cases e1; exact ⟨rfl, rfl⟩
   subst e1a
   have HX := Lib.hid hx; clear hx e1 e1b
   by_cases hz : x = 0
   ·subst hz
    have HP := Lib.hid (anyZ_hit HX.out)
    go_wp2
    go_ret
    exact ⟨_, rfl, by rw [HP.out]; exact decide_eq_true (by omega), rfl⟩
   ·have HN2 := Lib.hid (show anyZ (s.take (k + 1)) = false by rw [anyZ_take HX.out, HN.out]; simpa using hz)
    have hb : ((0 : Int) == x) = false := by simpa using fun e => hz (Eq.symm e)
    clear hz
    go_wp2
    go_roundw
    case rel => exact ⟨k + 1, by omega, by go_num, by trivial, HN2.out⟩
    case measure => simp [intOf]; omega
  ·have hkl : k = s.length := by omega
   have HNN := Lib.hid (show anyZ s = false by have := HN.out; rwa [hkl, List.take_length] at this)
   clear hkl
   go_wp2
   go_ret
   exact ⟨_, rfl, by rw [HNN.out]; rfl, rfl⟩
theorem scontz_calls {ok : Nat → Prop} (v : Value) (s : List Int) (w : World) (hv : Slc w ok v s.length (ints s)) (hl : s.length ≤ 9223372036854775807) :
  Calls Tryz.prog 117 #[v, .int .i64 0] w fun e w' => e = .returned (.bool (anyZ s)) ∧ w = w' := by
 have HV := Lib.hid hv; clear hv
 go_enter Tryz.func117, Tryz.ntmps117
 go_wp2_with fail
 refine (sindexz_calls _ s _ HV.out hl).mono ?_
 rintro e w1 ⟨r, rfl, hr, rfl⟩
 have HR := Lib.hid hr; clear hr
 go_wp2
 go_ret
 exact ⟨ret_b HR.out, rfl⟩
end Go.Proofs.YtbdhibcbpgjbmaaGreatDoor

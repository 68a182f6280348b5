/- Package vec, walked: Kind, Class, Len, has. -/
import Derived.Test.YtbdhibcbpgjbmaaGreatDoorVeA
import Derived.Test.YtbdhibcbpgjbmaaGreatDoorBvI
namespace Go.Proofs.YtbdhibcbpgjbmaaGreatDoor
open Go.RowKit
set_option linter.unusedVariables false
set_option maxRecDepth 100000
theorem kind_calls {ok : Nat → Prop} (u : Value) (V : VV) (w : World) (h : IsV w ok u V) : Calls Tryz.prog 35 #[.agg #[u]] w fun e w' => e = .returned (.int .i64 V.kind) ∧ Below w.heap.size w w' := by
 cases h with
 | none =>
  have t0 := ta_nil_Bits; have t1 := ta_nil_slI8; have t2 := ta_nil_slI64; have t3 := ta_nil_slF; have t4 := ta_nil_slI32; have t5 := ta_nil_slA
  go_enter Tryz.func35, Tryz.ntmps35
  go_wp2
  go_ret
  exact ⟨rfl, (Below.refl _ _).alloc (Nat.le_refl _) _⟩
 | bits h hm =>
  have t0 := ta_Bits_Bits; have t1 := ta_Bits_slI8; have t2 := ta_Bits_slI64; have t3 := ta_Bits_slF; have t4 := ta_Bits_slI32; have t5 := ta_Bits_slA
  go_enter Tryz.func35, Tryz.ntmps35
  go_wp2
  go_ret
  exact ⟨rfl, (Below.refl _ _).alloc (Nat.le_refl _) _⟩
 | smalls h =>
  have t0 := ta_slI8_Bits; have t1 := ta_slI8_slI8; have t2 := ta_slI8_slI64; have t3 := ta_slI8_slF; have t4 := ta_slI8_slI32; have t5 := ta_slI8_slA
  go_enter Tryz.func35, Tryz.ntmps35
  go_wp2
  go_ret
  exact ⟨rfl, (Below.refl _ _).alloc (Nat.le_refl _) _⟩
 | ints h =>
  have t0 := ta_slI64_Bits; have t1 := ta_slI64_slI8; have t2 := ta_slI64_slI64; have t3 := ta_slI64_slF; have t4 := ta_slI64_slI32; have t5 := ta_slI64_slA
  go_enter Tryz.func35, Tryz.ntmps35
  go_wp2
  go_ret
  exact ⟨rfl, (Below.refl _ _).alloc (Nat.le_refl _) _⟩
 | floats h =>
  have t0 := ta_slF_Bits; have t1 := ta_slF_slI8; have t2 := ta_slF_slI64; have t3 := ta_slF_slF; have t4 := ta_slF_slI32; have t5 := ta_slF_slA
  go_enter Tryz.func35, Tryz.ntmps35
  go_wp2
  go_ret
  exact ⟨rfl, (Below.refl _ _).alloc (Nat.le_refl _) _⟩
 | chars h =>
  have t0 := ta_slI32_Bits; have t1 := ta_slI32_slI8; have t2 := ta_slI32_slI64; have t3 := ta_slI32_slF; have t4 := ta_slI32_slI32; have t5 := ta_slI32_slA
  go_enter Tryz.func35, Tryz.ntmps35
  go_wp2
  go_ret
  exact ⟨rfl, (Below.refl _ _).alloc (Nat.le_refl _) _⟩
 | boxes f g h1 h2 hc hs hv =>
  have t0 := ta_slA_Bits; have t1 := ta_slA_slI8; have t2 := ta_slA_slI64; have t3 := ta_slA_slF; have t4 := ta_slA_slI32; have t5 := ta_slA_slA
  go_enter Tryz.func35, Tryz.ntmps35
  go_wp2
  go_ret
  exact ⟨rfl, (Below.refl _ _).alloc (Nat.le_refl _) _⟩
theorem class_calls {ok : Nat → Prop} (u : Value) (V : VV) (w : World) (h : IsV w ok u V) : Calls Tryz.prog 43 #[.agg #[u]] w fun e w' => e = .returned (.int .i64 V.cls) ∧ Below w.heap.size w w' := by
 have H := Lib.hid h
 cases V
 all_goals
  clear h
  go_enter Tryz.func43, Tryz.ntmps43
  go_wp2_with fail
  refine (kind_calls _ _ _ (H.out.grow ((Below.refl _ _).alloc (Nat.le_refl _) _))).mono ?_
  rintro e w1 ⟨rfl, hB⟩
  have HB := Lib.hid (((Below.refl w.heap.size w).alloc (Nat.le_refl _) (.cells #[u] 36)).trans (hB.mono (by simp <;> omega)))
  clear hB
  simp only [VV.kind]
  go_wp2
  go_ret
  exact ⟨rfl, HB.out⟩
theorem vlen_calls {ok : Nat → Prop} (u : Value) (V : VV) (w : World) (h : IsV w ok u V) : Calls Tryz.prog 31 #[.agg #[u]] w fun e w' => e = .returned (.int .i64 (V.len : Int)) ∧ Below w.heap.size w w' := by
 cases h with
 | none =>
  have t0 := ta_nil_Bits; have t1 := ta_nil_slI8; have t2 := ta_nil_slI64; have t3 := ta_nil_slF; have t4 := ta_nil_slI32; have t5 := ta_nil_slA
  go_enter Tryz.func31, Tryz.ntmps31
  go_wp2
  go_ret
  exact ⟨rfl, (Below.refl _ _).alloc (Nat.le_refl _) _⟩
 | bits h hm =>
  have t0 := ta_Bits_Bits; have t1 := ta_Bits_slI8; have t2 := ta_Bits_slI64; have t3 := ta_Bits_slF; have t4 := ta_Bits_slI32; have t5 := ta_Bits_slA
  have H := Lib.hid (IsV.isBits h)
  obtain ⟨_, ao, cap, rfl, _⟩ := h
  go_enter Tryz.func31, Tryz.ntmps31
  go_wp2_with fail
  refine (len_calls _ _ _ (H.out.keep (keep_below (((Below.refl _ _).alloc (Nat.le_refl _) _).alloc (by simp) _)))).mono ?_
  rintro e w1 ⟨rfl, hB⟩
  have HB := Lib.hid ((((Below.refl w.heap.size w).alloc (Nat.le_refl _) _).alloc (by simp) _).trans (hB.mono (by simp <;> omega)))
  clear hB
  go_wp2
  go_ret
  exact ⟨rfl, HB.out⟩
 | smalls h =>
  have t0 := ta_slI8_Bits; have t1 := ta_slI8_slI8; have t2 := ta_slI8_slI64; have t3 := ta_slI8_slF; have t4 := ta_slI8_slI32; have t5 := ta_slI8_slA
  obtain ⟨ao, cap, rfl, _⟩ := h.opened
  clear h
  go_enter Tryz.func31, Tryz.ntmps31
  go_wp2
  go_ret
  exact ⟨rfl, (Below.refl _ _).alloc (Nat.le_refl _) _⟩
 | ints h =>
  have t0 := ta_slI64_Bits; have t1 := ta_slI64_slI8; have t2 := ta_slI64_slI64; have t3 := ta_slI64_slF; have t4 := ta_slI64_slI32; have t5 := ta_slI64_slA
  obtain ⟨ao, cap, rfl, _⟩ := h.opened
  clear h
  go_enter Tryz.func31, Tryz.ntmps31
  go_wp2
  go_ret
  exact ⟨rfl, (Below.refl _ _).alloc (Nat.le_refl _) _⟩
 | floats h =>
  have t0 := ta_slF_Bits; have t1 := ta_slF_slI8; have t2 := ta_slF_slI64; have t3 := ta_slF_slF; have t4 := ta_slF_slI32; have t5 := ta_slF_slA
  obtain ⟨ao, cap, rfl, _⟩ := h.opened
  clear h
  go_enter Tryz.func31, Tryz.ntmps31
  go_wp2
  go_ret
  exact ⟨rfl, (Below.refl _ _).alloc (Nat.le_refl _) _⟩
 | chars h =>
  have t0 := ta_slI32_Bits; have t1 := ta_slI32_slI8; have t2 := ta_slI32_slI64; have t3 := ta_slI32_slF; have t4 := ta_slI32_slI32; have t5 := ta_slI32_slA
  obtain ⟨ao, cap, rfl, _⟩ := h.opened
  clear h
  go_enter Tryz.func31, Tryz.ntmps31
  go_wp2
  go_ret
  exact ⟨rfl, (Below.refl _ _).alloc (Nat.le_refl _) _⟩
 | boxes f g h1 h2 hc hs hv =>
  have t0 := ta_slA_Bits; have t1 := ta_slA_slI8; have t2 := ta_slA_slI64; have t3 := ta_slA_slF; have t4 := ta_slA_slI32; have t5 := ta_slA_slA
  go_enter Tryz.func31, Tryz.ntmps31
  go_wp2
  go_ret
  exact ⟨rfl, (Below.refl _ _).alloc (Nat.le_refl _) _⟩
theorem has_calls {ok : Nat → Prop} (u : Value) (V : VV) (i : Int) (w : World) (h : IsV w ok u V) : Calls Tryz.prog 89 #[.agg #[u], .int .i64 i] w fun e w' => e = .returned (.bool (decide (0 ≤ i) && decide (i < (V.len : Int)))) ∧ Below w.heap.size w w' := by
 have H := Lib.hid h; clear h
 by_cases h0 : i < 0
 ·have h0' : ¬ 0 ≤ i := by omega
  have hr : Hid ((decide (0 ≤ i) && decide (i < (V.len : Int))) = false) := Lib.hid (by simp; omega)
  go_enter Tryz.func89, Tryz.ntmps89
  go_wp2
  go_ret
  exact ⟨ret_b hr.out.symm, (Below.refl _ _).alloc (Nat.le_refl _) _⟩
 ·have h0' : 0 ≤ i := by omega
  have hr : Hid ((decide (0 ≤ i) && decide (i < (V.len : Int))) = decide (i < (V.len : Int))) := Lib.hid (by simp; omega)
  go_enter Tryz.func89, Tryz.ntmps89
  go_wp2_with fail
  refine (vlen_calls _ _ _ (H.out.grow ((Below.refl _ _).alloc (Nat.le_refl _) _))).mono ?_
  rintro e w1 ⟨rfl, hB⟩
  have HB := Lib.hid (((Below.refl w.heap.size w).alloc (Nat.le_refl _) (.cells #[u] 36)).trans (hB.mono (by simp <;> omega)))
  clear hB
  go_wp2
  go_ret
  exact ⟨ret_b hr.out.symm, HB.out⟩
end Go.Proofs.YtbdhibcbpgjbmaaGreatDoor

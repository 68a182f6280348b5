/- Package vec, walked: Char, Packed, Nums, Wholes, Text. -/
import Derived.Test.YtbdhibcbpgjbmaaGreatDoorVeI
namespace Go.Proofs.YtbdhibcbpgjbmaaGreatDoor
open Go.RowKit
set_option linter.unusedVariables false
set_option maxRecDepth 100000

theorem isBits_empty (w : World) : IsBits w (.agg #[.int .i64 0, .slice none 0 0]) [] := ⟨_, rfl, rfl, none, 0, rfl, fun i hi => absurd hi (by simp [words, bws, u64s])⟩

set_option maxHeartbeats 2000000 in
theorem vnums_calls {ok : Nat → Prop} (u : Value) (V : VV) (w : World) (h : IsV w ok u V) (hok : V.ok) (hT : TabAt w) : Calls Tryz.prog 48 #[.agg #[u]] w fun e w' => ∃ v, e = .returned v ∧ Slc w' (fun b => w.heap.size ≤ b) v V.nums.length (f64s V.nums) ∧ Below w.heap.size w w' := by
 have HT := Lib.hid hT; clear hT
 cases h with
 | none =>
  have t0 := ta_nil_Bits; have t1 := ta_nil_slI8; have t2 := ta_nil_slI64; have t3 := ta_nil_slF; have t4 := ta_nil_slI32; have t5 := ta_nil_slA
  go_enter Tryz.func48, Tryz.ntmps48
  go_wp2
  go_ret
  exact ⟨_, rfl, Slc.nil _ _, below_new _ _⟩
 | @bits s l h hm =>
  have hb := Lib.hid (IsV.isBits h)
  obtain ⟨_, ao, cap, rfl, _⟩ := h
  have t0 := ta_Bits_Bits; have t1 := ta_Bits_slI8; have t2 := ta_Bits_slI64; have t3 := ta_Bits_slF; have t4 := ta_Bits_slI32; have t5 := ta_Bits_slA
  go_enter Tryz.func48, Tryz.ntmps48
  go_wp2_with fail
  refine (FlagsF_calls _ _ _ (hb.out.keep (keep_below ((below_new _ _).alloc (by simp) _))) hm (fun j hj => keep_below ((below_new _ _).alloc (by simp) _) _ _ (HT.out j hj))).mono ?_
  rintro e w1 ⟨v1, rfl, hs, hB⟩
  have HS1 := Lib.hid (hs.keep (Kept.refl _ _) (ok' := fun b => w.heap.size ≤ b) (fun b _ h => by simp at h; omega))
  have HB := Lib.hid (((below_new w _).alloc (by simp) _).trans (hB.mono (by simp <;> omega)))
  clear hs hB
  go_wp2
  go_ret
  exact ⟨v1, rfl, by have := HS1.out; simpa only [VV.nums, List.length_map] using this, HB.out⟩
 | @smalls s l h =>
  have HS := Lib.hid h
  obtain ⟨ao, cap, rfl, _, _, _, hc⟩ := h.opened
  clear h hc
  have t0 := ta_slI8_Bits; have t1 := ta_slI8_slI8; have t2 := ta_slI8_slI64; have t3 := ta_slI8_slF; have t4 := ta_slI8_slI32; have t5 := ta_slI8_slA
  go_enter Tryz.func48, Tryz.ntmps48
  go_wp2_with fail
  refine (ConvFI8_calls _ _ _ (HS.out.below (below_new _ _)) (Nat.le_trans hok.1 (by omega))).mono ?_
  rintro e w1 ⟨v1, rfl, hs, hB⟩
  have HS1 := Lib.hid (hs.keep (Kept.refl _ _) (ok' := fun b => w.heap.size ≤ b) (fun b _ h => by simp at h; omega))
  have HB := Lib.hid ((below_new w _).trans (hB.mono (by simp <;> omega)))
  clear hs hB
  go_wp2
  go_ret
  exact ⟨v1, rfl, by have := HS1.out; simpa only [VV.nums, List.length_map] using this, HB.out⟩
 | @ints s l h =>
  have HS := Lib.hid h
  obtain ⟨ao, cap, rfl, _, _, _, hc⟩ := h.opened
  clear h hc
  have t0 := ta_slI64_Bits; have t1 := ta_slI64_slI8; have t2 := ta_slI64_slI64; have t3 := ta_slI64_slF; have t4 := ta_slI64_slI32; have t5 := ta_slI64_slA
  go_enter Tryz.func48, Tryz.ntmps48
  go_wp2_with fail
  refine (ConvFI_calls _ _ _ (HS.out.below (below_new _ _)) (Nat.le_trans hok (by omega))).mono ?_
  rintro e w1 ⟨v1, rfl, hs, hB⟩
  have HS1 := Lib.hid (hs.keep (Kept.refl _ _) (ok' := fun b => w.heap.size ≤ b) (fun b _ h => by simp at h; omega))
  have HB := Lib.hid ((below_new w _).trans (hB.mono (by simp <;> omega)))
  clear hs hB
  go_wp2
  go_ret
  exact ⟨v1, rfl, by have := HS1.out; simpa only [VV.nums, List.length_map] using this, HB.out⟩
 | @floats s l h =>
  have HS := Lib.hid h
  obtain ⟨ao, cap, rfl, _, _, _, hc⟩ := h.opened
  clear h hc
  have t0 := ta_slF_Bits; have t1 := ta_slF_slI8; have t2 := ta_slF_slI64; have t3 := ta_slF_slF; have t4 := ta_slF_slI32; have t5 := ta_slF_slA
  go_enter Tryz.func48, Tryz.ntmps48
  go_wp2_with fail
  refine (CloneF_calls _ _ _ (HS.out.below (below_new _ _)) (Nat.le_trans hok (by omega))).mono ?_
  rintro e w1 ⟨v1, rfl, hs, hB⟩
  have HS1 := Lib.hid (hs.keep (Kept.refl _ _) (ok' := fun b => w.heap.size ≤ b) (fun b _ h => by simp at h; omega))
  have HB := Lib.hid ((below_new w _).trans (hB.mono (by simp <;> omega)))
  clear hs hB
  go_wp2
  go_ret
  exact ⟨v1, rfl, by have := HS1.out; simpa only [VV.nums, List.length_map] using this, HB.out⟩
 | @chars s l h =>
  have HS := Lib.hid h
  obtain ⟨ao, cap, rfl, _, _, _, hc⟩ := h.opened
  clear h hc
  have t0 := ta_slI32_Bits; have t1 := ta_slI32_slI8; have t2 := ta_slI32_slI64; have t3 := ta_slI32_slF; have t4 := ta_slI32_slI32; have t5 := ta_slI32_slA
  go_enter Tryz.func48, Tryz.ntmps48
  go_wp2
  go_ret
  exact ⟨_, rfl, Slc.nil _ _, below_new _ _⟩
 | @boxes ao cap l f g h1 h2 hc hs hv =>
  have t0 := ta_slA_Bits; have t1 := ta_slA_slI8; have t2 := ta_slA_slI64; have t3 := ta_slA_slF; have t4 := ta_slA_slI32; have t5 := ta_slA_slA
  go_enter Tryz.func48, Tryz.ntmps48
  go_wp2
  go_ret
  exact ⟨_, rfl, Slc.nil _ _, below_new _ _⟩

set_option maxHeartbeats 2000000 in
theorem vpacked_calls {ok : Nat → Prop} (u : Value) (V : VV) (w : World) (h : IsV w ok u V) : Calls Tryz.prog 103 #[.agg #[u]] w fun e w' => ∃ v, e = .returned (.tuple #[v, .bool V.isBit]) ∧ IsBits w' v V.packed ∧ Below w.heap.size w w' := by
 cases h with
 | none =>
  have t0 := ta_nil_Bits; have t1 := ta_nil_slI8; have t2 := ta_nil_slI64; have t3 := ta_nil_slF; have t4 := ta_nil_slI32; have t5 := ta_nil_slA
  go_enter Tryz.func103, Tryz.ntmps103
  go_wp2
  refine bodyPost_ret (v := .tuple #[.agg #[.int .i64 0, .slice none 0 0], .bool false]) (by simp [results, Tryz.results103, go_sem]) rfl ⟨_, rfl, isBits_empty _, ?_⟩
  exact ((below_new w _).alloc (by simp) _).alloc (by simp <;> omega) _
 | @bits s l h hm =>
  have hb := Lib.hid (IsV.isBits h)
  obtain ⟨_, ao, cap, rfl, _⟩ := h
  have t0 := ta_Bits_Bits; have t1 := ta_Bits_slI8; have t2 := ta_Bits_slI64; have t3 := ta_Bits_slF; have t4 := ta_Bits_slI32; have t5 := ta_Bits_slA
  go_enter Tryz.func103, Tryz.ntmps103
  go_wp2
  have hB := Lib.hid (((below_new w (.cells #[.iface 81 (.agg #[.int .i64 l.length, .slice ao ((l.length + 63) / 64) cap])] 36)).alloc (by simp) (.cells #[.int .i64 l.length, .slice ao ((l.length + 63) / 64) cap] 81)).alloc (by simp <;> omega) (.cells #[.int .i64 l.length, .slice ao ((l.length + 63) / 64) cap] 81))
  refine bodyPost_ret (v := .tuple #[.agg #[.int .i64 l.length, .slice ao ((l.length + 63) / 64) cap], .bool true]) (by simp [results, Tryz.results103, go_sem]) rfl ⟨_, rfl, hb.out.keep (keep_below ?_), ?_⟩
  all_goals exact hB.out
 | @smalls s l h =>
  have HS := Lib.hid h
  obtain ⟨ao, cap, rfl, _, _, _, hc⟩ := h.opened
  clear h hc
  have t0 := ta_slI8_Bits; have t1 := ta_slI8_slI8; have t2 := ta_slI8_slI64; have t3 := ta_slI8_slF; have t4 := ta_slI8_slI32; have t5 := ta_slI8_slA
  go_enter Tryz.func103, Tryz.ntmps103
  go_wp2
  refine bodyPost_ret (v := .tuple #[.agg #[.int .i64 0, .slice none 0 0], .bool false]) (by simp [results, Tryz.results103, go_sem]) rfl ⟨_, rfl, isBits_empty _, ?_⟩
  exact ((below_new w _).alloc (by simp) _).alloc (by simp <;> omega) _
 | @ints s l h =>
  have HS := Lib.hid h
  obtain ⟨ao, cap, rfl, _, _, _, hc⟩ := h.opened
  clear h hc
  have t0 := ta_slI64_Bits; have t1 := ta_slI64_slI8; have t2 := ta_slI64_slI64; have t3 := ta_slI64_slF; have t4 := ta_slI64_slI32; have t5 := ta_slI64_slA
  go_enter Tryz.func103, Tryz.ntmps103
  go_wp2
  refine bodyPost_ret (v := .tuple #[.agg #[.int .i64 0, .slice none 0 0], .bool false]) (by simp [results, Tryz.results103, go_sem]) rfl ⟨_, rfl, isBits_empty _, ?_⟩
  exact ((below_new w _).alloc (by simp) _).alloc (by simp <;> omega) _
 | @floats s l h =>
  have HS := Lib.hid h
  obtain ⟨ao, cap, rfl, _, _, _, hc⟩ := h.opened
  clear h hc
  have t0 := ta_slF_Bits; have t1 := ta_slF_slI8; have t2 := ta_slF_slI64; have t3 := ta_slF_slF; have t4 := ta_slF_slI32; have t5 := ta_slF_slA
  go_enter Tryz.func103, Tryz.ntmps103
  go_wp2
  refine bodyPost_ret (v := .tuple #[.agg #[.int .i64 0, .slice none 0 0], .bool false]) (by simp [results, Tryz.results103, go_sem]) rfl ⟨_, rfl, isBits_empty _, ?_⟩
  exact ((below_new w _).alloc (by simp) _).alloc (by simp <;> omega) _
 | @chars s l h =>
  have HS := Lib.hid h
  obtain ⟨ao, cap, rfl, _, _, _, hc⟩ := h.opened
  clear h hc
  have t0 := ta_slI32_Bits; have t1 := ta_slI32_slI8; have t2 := ta_slI32_slI64; have t3 := ta_slI32_slF; have t4 := ta_slI32_slI32; have t5 := ta_slI32_slA
  go_enter Tryz.func103, Tryz.ntmps103
  go_wp2
  refine bodyPost_ret (v := .tuple #[.agg #[.int .i64 0, .slice none 0 0], .bool false]) (by simp [results, Tryz.results103, go_sem]) rfl ⟨_, rfl, isBits_empty _, ?_⟩
  exact ((below_new w _).alloc (by simp) _).alloc (by simp <;> omega) _
 | @boxes ao cap l f g h1 h2 hc hs hv =>
  have t0 := ta_slA_Bits; have t1 := ta_slA_slI8; have t2 := ta_slA_slI64; have t3 := ta_slA_slF; have t4 := ta_slA_slI32; have t5 := ta_slA_slA
  go_enter Tryz.func103, Tryz.ntmps103
  go_wp2
  refine bodyPost_ret (v := .tuple #[.agg #[.int .i64 0, .slice none 0 0], .bool false]) (by simp [results, Tryz.results103, go_sem]) rfl ⟨_, rfl, isBits_empty _, ?_⟩
  exact ((below_new w _).alloc (by simp) _).alloc (by simp <;> omega) _

set_option maxHeartbeats 2000000 in
theorem vchar_calls {ok : Nat → Prop} (u : Value) (V : VV) (i : Int) (w : World) (h : IsV w ok u V) : Calls Tryz.prog 55 #[.agg #[u], .int .i64 i] w fun e w' => e = .returned (.int .i32 (atI V.text 0 i)) ∧ Below w.heap.size w w' := by
 have H := Lib.hid h
 cases h with
 | none =>
  have t0 := ta_nil_Bits; have t1 := ta_nil_slI8; have t2 := ta_nil_slI64; have t3 := ta_nil_slF; have t4 := ta_nil_slI32; have t5 := ta_nil_slA
  go_enter Tryz.func55, Tryz.ntmps55
  go_wp2
  go_ret
  exact ⟨ret_i (by simp [VV.text, atI]), below_new _ _⟩
 | @bits s l h hm =>
  have hb := Lib.hid (IsV.isBits h)
  obtain ⟨_, ao, cap, rfl, _⟩ := h
  have t0 := ta_Bits_Bits; have t1 := ta_Bits_slI8; have t2 := ta_Bits_slI64; have t3 := ta_Bits_slF; have t4 := ta_Bits_slI32; have t5 := ta_Bits_slA
  go_enter Tryz.func55, Tryz.ntmps55
  go_wp2
  go_ret
  exact ⟨ret_i (by simp [VV.text, atI]), below_new _ _⟩
 | @smalls s l h =>
  have HS := Lib.hid h
  obtain ⟨ao, cap, rfl, _, _, _, hc⟩ := h.opened
  clear h hc
  have t0 := ta_slI8_Bits; have t1 := ta_slI8_slI8; have t2 := ta_slI8_slI64; have t3 := ta_slI8_slF; have t4 := ta_slI8_slI32; have t5 := ta_slI8_slA
  go_enter Tryz.func55, Tryz.ntmps55
  go_wp2
  go_ret
  exact ⟨ret_i (by simp [VV.text, atI]), below_new _ _⟩
 | @ints s l h =>
  have HS := Lib.hid h
  obtain ⟨ao, cap, rfl, _, _, _, hc⟩ := h.opened
  clear h hc
  have t0 := ta_slI64_Bits; have t1 := ta_slI64_slI8; have t2 := ta_slI64_slI64; have t3 := ta_slI64_slF; have t4 := ta_slI64_slI32; have t5 := ta_slI64_slA
  go_enter Tryz.func55, Tryz.ntmps55
  go_wp2
  go_ret
  exact ⟨ret_i (by simp [VV.text, atI]), below_new _ _⟩
 | @floats s l h =>
  have HS := Lib.hid h
  obtain ⟨ao, cap, rfl, _, _, _, hc⟩ := h.opened
  clear h hc
  have t0 := ta_slF_Bits; have t1 := ta_slF_slI8; have t2 := ta_slF_slI64; have t3 := ta_slF_slF; have t4 := ta_slF_slI32; have t5 := ta_slF_slA
  go_enter Tryz.func55, Tryz.ntmps55
  go_wp2
  go_ret
  exact ⟨ret_i (by simp [VV.text, atI]), below_new _ _⟩
 | @chars s l h =>
  by_cases hin : 0 ≤ i ∧ i < (l.length : Int)
  ·obtain ⟨k, rfl⟩ := Int.eq_ofNat_of_zero_le hin.1
   have hk : k < l.length := by omega
   obtain ⟨b, off, cap, x, rfl, hx, hcl0⟩ := Slc.at_map (Value.int .i32) h k hk
   have HX := Lib.hid hx; have HCL := Lib.hid hcl0; have HK := Lib.hid hk; clear hin hx hcl0 h
   have t0 := ta_slI32_Bits; have t1 := ta_slI32_slI8; have t2 := ta_slI32_slI64; have t3 := ta_slI32_slF; have t4 := ta_slI32_slI32; have t5 := ta_slI32_slA
   go_enter Tryz.func55, Tryz.ntmps55
   go_wp2_with fail
   refine (has_yes _ _ k _ (H.out.grow (below_new _ _)) HK.out).mono ?_
   rintro e w1 ⟨rfl, hB⟩
   have HB := Lib.hid ((below_new w _).trans (hB.mono (by simp <;> omega)))
   clear hB
   have hcl := keep_below HB.out _ _ HCL.out
   go_wp2
   go_ret
   exact ⟨ret_i (by simp only [VV.text]; exact (atI_some HX.out).symm), HB.out⟩
  ·have HN := Lib.hid hin
   obtain ⟨ao, cap, rfl, _⟩ := h.opened
   clear hin h
   have t0 := ta_slI32_Bits; have t1 := ta_slI32_slI8; have t2 := ta_slI32_slI64; have t3 := ta_slI32_slF; have t4 := ta_slI32_slI32; have t5 := ta_slI32_slA
   go_enter Tryz.func55, Tryz.ntmps55
   go_wp2_with fail
   refine (has_no _ _ i _ (H.out.grow (below_new _ _)) HN.out).mono ?_
   rintro e w1 ⟨rfl, hB⟩
   have HB := Lib.hid ((below_new w _).trans (hB.mono (by simp <;> omega)))
   clear hB
   go_wp2
   go_ret
   exact ⟨ret_i (by simp only [VV.text]; exact (atI_neg HN.out).symm), HB.out⟩
 | @boxes ao cap l f g h1 h2 hc hs hv =>
  have t0 := ta_slA_Bits; have t1 := ta_slA_slI8; have t2 := ta_slA_slI64; have t3 := ta_slA_slF; have t4 := ta_slA_slI32; have t5 := ta_slA_slA
  go_enter Tryz.func55, Tryz.ntmps55
  go_wp2
  go_ret
  exact ⟨ret_i (by simp [VV.text, atI]), below_new _ _⟩
end Go.Proofs.YtbdhibcbpgjbmaaGreatDoor

/- Merged: BxA. -/
import Derived.Test.YtbacchbcanlciaaGreatDoorMgBv1
import Derived.Test.YtbacchbcanlciaaGreatDoorMgVe1
namespace Go.Proofs.YtbacchbcanlciaaGreatDoor
set_option maxRecDepth 100000
open Go.RowKit
set_option linter.unusedVariables false

theorem bitsX_nil9 (w : World) (ok : Nat → Prop) : IsBitsX w ok (.agg #[.int .i64 0, .slice none 0 0]) [] := ⟨_, rfl, (Slc.nil w ok).1⟩
set_option maxHeartbeats 2000000 in
theorem packed_x {ok : Nat → Prop} (u : Value) (V : VV) (w : World) (h : IsV w ok u V) : Calls Tryz.prog 33 #[.agg #[u]] w fun e w' => ∃ v, e = .returned (.tuple #[v, .bool V.isBit]) ∧ IsBitsX w' ok v V.packed ∧ Below w.heap.size w w' := by
 cases h with
 | none =>
  have t0 := ta_nil_Bits; have t1 := ta_nil_slI8; have t2 := ta_nil_slI64; have t3 := ta_nil_slF; have t4 := ta_nil_slI32; have t5 := ta_nil_slA
  go_enter Tryz.func33, Tryz.ntmps33
  go_wp2
  refine bodyPost_ret (v := .tuple #[.agg #[.int .i64 0, .slice none 0 0], .bool false]) (by simp [results, Tryz.results33, go_sem]) rfl ⟨_, rfl, bitsX_nil9 _ _, ?_⟩
  exact ((below_new w _).alloc (by simp) _).alloc (by simp <;> omega) _
 | @bits s l h hm =>
  have hb := Lib.hid (show IsBitsX w ok _ l from ⟨_, rfl, h⟩)
  obtain ⟨_, ao, cap, rfl, _⟩ := h
  have t0 := ta_Bits_Bits; have t1 := ta_Bits_slI8; have t2 := ta_Bits_slI64; have t3 := ta_Bits_slF; have t4 := ta_Bits_slI32; have t5 := ta_Bits_slA
  go_enter Tryz.func33, Tryz.ntmps33
  go_wp2
  have hB := Lib.hid (((below_new w (.cells #[.iface 63 (.agg #[.int .i64 l.length, .slice ao ((l.length + 63) / 64) cap])] 25)).alloc (by simp) (.cells #[.int .i64 l.length, .slice ao ((l.length + 63) / 64) cap] 63)).alloc (by simp <;> omega) (.cells #[.int .i64 l.length, .slice ao ((l.length + 63) / 64) cap] 63))
  refine bodyPost_ret (v := .tuple #[.agg #[.int .i64 l.length, .slice ao ((l.length + 63) / 64) cap], .bool true]) (by simp [results, Tryz.results33, go_sem]) rfl ⟨_, rfl, hb.out.keep (Kept.below ?_) (fun _ _ h => h), ?_⟩
  all_goals exact hB.out
 | @smalls s l h =>
  have HS := Lib.hid h
  obtain ⟨ao, cap, rfl, _, _, _, hc⟩ := h.opened
  clear h hc
  have t0 := ta_slI8_Bits; have t1 := ta_slI8_slI8; have t2 := ta_slI8_slI64; have t3 := ta_slI8_slF; have t4 := ta_slI8_slI32; have t5 := ta_slI8_slA
  go_enter Tryz.func33, Tryz.ntmps33
  go_wp2
  refine bodyPost_ret (v := .tuple #[.agg #[.int .i64 0, .slice none 0 0], .bool false]) (by simp [results, Tryz.results33, go_sem]) rfl ⟨_, rfl, bitsX_nil9 _ _, ?_⟩
  exact ((below_new w _).alloc (by simp) _).alloc (by simp <;> omega) _
 | @ints s l h =>
  have HS := Lib.hid h
  obtain ⟨ao, cap, rfl, _, _, _, hc⟩ := h.opened
  clear h hc
  have t0 := ta_slI64_Bits; have t1 := ta_slI64_slI8; have t2 := ta_slI64_slI64; have t3 := ta_slI64_slF; have t4 := ta_slI64_slI32; have t5 := ta_slI64_slA
  go_enter Tryz.func33, Tryz.ntmps33
  go_wp2
  refine bodyPost_ret (v := .tuple #[.agg #[.int .i64 0, .slice none 0 0], .bool false]) (by simp [results, Tryz.results33, go_sem]) rfl ⟨_, rfl, bitsX_nil9 _ _, ?_⟩
  exact ((below_new w _).alloc (by simp) _).alloc (by simp <;> omega) _
 | @floats s l h =>
  have HS := Lib.hid h
  obtain ⟨ao, cap, rfl, _, _, _, hc⟩ := h.opened
  clear h hc
  have t0 := ta_slF_Bits; have t1 := ta_slF_slI8; have t2 := ta_slF_slI64; have t3 := ta_slF_slF; have t4 := ta_slF_slI32; have t5 := ta_slF_slA
  go_enter Tryz.func33, Tryz.ntmps33
  go_wp2
  refine bodyPost_ret (v := .tuple #[.agg #[.int .i64 0, .slice none 0 0], .bool false]) (by simp [results, Tryz.results33, go_sem]) rfl ⟨_, rfl, bitsX_nil9 _ _, ?_⟩
  exact ((below_new w _).alloc (by simp) _).alloc (by simp <;> omega) _
 | @chars s l h =>
  have HS := Lib.hid h
  obtain ⟨ao, cap, rfl, _, _, _, hc⟩ := h.opened
  clear h hc
  have t0 := ta_slI32_Bits; have t1 := ta_slI32_slI8; have t2 := ta_slI32_slI64; have t3 := ta_slI32_slF; have t4 := ta_slI32_slI32; have t5 := ta_slI32_slA
  go_enter Tryz.func33, Tryz.ntmps33
  go_wp2
  refine bodyPost_ret (v := .tuple #[.agg #[.int .i64 0, .slice none 0 0], .bool false]) (by simp [results, Tryz.results33, go_sem]) rfl ⟨_, rfl, bitsX_nil9 _ _, ?_⟩
  exact ((below_new w _).alloc (by simp) _).alloc (by simp <;> omega) _
 | @boxes ao cap l f g h1 h2 hc hs hv =>
  have t0 := ta_slA_Bits; have t1 := ta_slA_slI8; have t2 := ta_slA_slI64; have t3 := ta_slA_slF; have t4 := ta_slA_slI32; have t5 := ta_slA_slA
  go_enter Tryz.func33, Tryz.ntmps33
  go_wp2
  refine bodyPost_ret (v := .tuple #[.agg #[.int .i64 0, .slice none 0 0], .bool false]) (by simp [results, Tryz.results33, go_sem]) rfl ⟨_, rfl, bitsX_nil9 _ _, ?_⟩
  exact ((below_new w _).alloc (by simp) _).alloc (by simp <;> omega) _
end Go.Proofs.YtbacchbcanlciaaGreatDoor

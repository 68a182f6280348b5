/- Package vec, walked: Char, Packed, Nums, Wholes, Text. -/
import Derived.Test.YtnicoddkbcfijaaDoorVeI
namespace Go.Proofs.YtnicoddkbcfijaaDoor
open Go.RowKit
set_option linter.unusedVariables false
set_option maxRecDepth 4000

theorem isBits_empty (w : World) : IsBits w (.agg #[.int .i64 0, .slice none 0 0]) [] := ⟨_, rfl, rfl, none, 0, rfl, fun i hi => absurd hi (by simp [words, bws, u64s])⟩

set_option maxHeartbeats 2000000 in
theorem vnums_calls {ok : Nat → Prop} (u : Value) (V : VV) (w : World) (h : IsV w ok u V) (hok : V.ok) (hT : TabAt w) : Calls Tryd.prog 16 #[.agg #[u]] w fun e w' => ∃ v, e = .returned v ∧ Slc w' (fun b => w.heap.size ≤ b) v V.nums.length (f64s V.nums) ∧ Below w.heap.size w w' := by
  have HT := Lib.hid hT
  clear hT
  cases h with
  | none =>
    have t0 := ta_nil_Bits; have t1 := ta_nil_slI8; have t2 := ta_nil_slI64; have t3 := ta_nil_slF; have t4 := ta_nil_slI32; have t5 := ta_nil_slA
    go_enter Tryd.func16, Tryd.ntmps16
    go_wp2
    go_ret
    exact ⟨_, rfl, Slc.nil _ _, below_new _ _⟩
  | @bits s l h hm =>
    have hb := Lib.hid (IsV.isBits h)
    obtain ⟨_, ao, cap, rfl, _⟩ := h
    have t0 := ta_Bits_Bits; have t1 := ta_Bits_slI8; have t2 := ta_Bits_slI64; have t3 := ta_Bits_slF; have t4 := ta_Bits_slI32; have t5 := ta_Bits_slA
    go_enter Tryd.func16, Tryd.ntmps16
    go_wp2_with fail
    refine (FlagsF_calls _ _ _ (hb.out.keep (keep_below ((below_new _ _).alloc (by simp) _))) hm (fun j hj => keep_below ((below_new _ _).alloc (by simp) _) _ _ (HT.out j hj))).mono ?_
    rintro e w1 ⟨v1, rfl, hs, hB⟩
    have HS1 := Lib.hid (hs.keep (Kept.refl _ _) (ok' := fun b => w.heap.size ≤ b) (fun b _ h => by simp at h; omega))
    have HB := Lib.hid (((below_new w _).alloc (by simp) _).trans (hB.mono (by simp <;> omega)))
    clear hs hB
    go_wp2
    go_ret
    exact ⟨v1, rfl, by have := HS1.out; simpa only [VV.nums, List.length_map] using this, HB.out⟩
  | @smalls s l h =>
    have HS := Lib.hid h
    obtain ⟨ao, cap, rfl, _, _, _, hc⟩ := h.opened
    clear h hc
    have t0 := ta_slI8_Bits; have t1 := ta_slI8_slI8; have t2 := ta_slI8_slI64; have t3 := ta_slI8_slF; have t4 := ta_slI8_slI32; have t5 := ta_slI8_slA
    go_enter Tryd.func16, Tryd.ntmps16
    go_wp2_with fail
    refine (ConvFI8_calls _ _ _ (HS.out.below (below_new _ _)) (Nat.le_trans hok.1 (by omega))).mono ?_
    rintro e w1 ⟨v1, rfl, hs, hB⟩
    have HS1 := Lib.hid (hs.keep (Kept.refl _ _) (ok' := fun b => w.heap.size ≤ b) (fun b _ h => by simp at h; omega))
    have HB := Lib.hid ((below_new w _).trans (hB.mono (by simp <;> omega)))
    clear hs hB
    go_wp2
    go_ret
    exact ⟨v1, rfl, by have := HS1.out; simpa only [VV.nums, List.length_map] using this, HB.out⟩
  | @ints s l h =>
    have HS := Lib.hid h
    obtain ⟨ao, cap, rfl, _, _, _, hc⟩ := h.opened
    clear h hc
    have t0 := ta_slI64_Bits; have t1 := ta_slI64_slI8; have t2 := ta_slI64_slI64; have t3 := ta_slI64_slF; have t4 := ta_slI64_slI32; have t5 := ta_slI64_slA
    go_enter Tryd.func16, Tryd.ntmps16
    go_wp2_with fail
    refine (ConvFI_calls _ _ _ (HS.out.below (below_new _ _)) (Nat.le_trans hok (by omega))).mono ?_
    rintro e w1 ⟨v1, rfl, hs, hB⟩
    have HS1 := Lib.hid (hs.keep (Kept.refl _ _) (ok' := fun b => w.heap.size ≤ b) (fun b _ h => by simp at h; omega))
    have HB := Lib.hid ((below_new w _).trans (hB.mono (by simp <;> omega)))
    clear hs hB
    go_wp2
    go_ret
    exact ⟨v1, rfl, by have := HS1.out; simpa only [VV.nums, List.length_map] using this, HB.out⟩
  | @floats s l h =>
    have HS := Lib.hid h
    obtain ⟨ao, cap, rfl, _, _, _, hc⟩ := h.opened
    clear h hc
    have t0 := ta_slF_Bits; have t1 := ta_slF_slI8; have t2 := ta_slF_slI64; have t3 := ta_slF_slF; have t4 := ta_slF_slI32; have t5 := ta_slF_slA
    go_enter Tryd.func16, Tryd.ntmps16
    go_wp2_with fail
    refine (CloneF_calls _ _ _ (HS.out.below (below_new _ _)) (Nat.le_trans hok (by omega))).mono ?_
    rintro e w1 ⟨v1, rfl, hs, hB⟩
    have HS1 := Lib.hid (hs.keep (Kept.refl _ _) (ok' := fun b => w.heap.size ≤ b) (fun b _ h => by simp at h; omega))
    have HB := Lib.hid ((below_new w _).trans (hB.mono (by simp <;> omega)))
    clear hs hB
    go_wp2
    go_ret
    exact ⟨v1, rfl, by have := HS1.out; simpa only [VV.nums, List.length_map] using this, HB.out⟩
  | @chars s l h =>
    have HS := Lib.hid h
    obtain ⟨ao, cap, rfl, _, _, _, hc⟩ := h.opened
    clear h hc
    have t0 := ta_slI32_Bits; have t1 := ta_slI32_slI8; have t2 := ta_slI32_slI64; have t3 := ta_slI32_slF; have t4 := ta_slI32_slI32; have t5 := ta_slI32_slA
    go_enter Tryd.func16, Tryd.ntmps16
    go_wp2
    go_ret
    exact ⟨_, rfl, Slc.nil _ _, below_new _ _⟩
  | @boxes ao cap l f g h1 h2 hc hs hv =>
    have t0 := ta_slA_Bits; have t1 := ta_slA_slI8; have t2 := ta_slA_slI64; have t3 := ta_slA_slF; have t4 := ta_slA_slI32; have t5 := ta_slA_slA
    go_enter Tryd.func16, Tryd.ntmps16
    go_wp2
    go_ret
    exact ⟨_, rfl, Slc.nil _ _, below_new _ _⟩

set_option maxHeartbeats 2000000 in
theorem vtext_calls {ok : Nat → Prop} (u : Value) (V : VV) (w : World) (h : IsV w ok u V) (hok : V.ok) : Calls Tryd.prog 23 #[.agg #[u]] w fun e w' => ∃ v, e = .returned v ∧ Slc w' (fun b => w.heap.size ≤ b) v V.text.length (i32s V.text) ∧ Below w.heap.size w w' := by
  cases h with
  | none =>
    have t0 := ta_nil_Bits; have t1 := ta_nil_slI8; have t2 := ta_nil_slI64; have t3 := ta_nil_slF; have t4 := ta_nil_slI32; have t5 := ta_nil_slA
    go_enter Tryd.func23, Tryd.ntmps23
    go_wp2
    go_ret
    exact ⟨_, rfl, Slc.nil _ _, below_new _ _⟩
  | @bits s l h hm =>
    have hb := Lib.hid (IsV.isBits h)
    obtain ⟨_, ao, cap, rfl, _⟩ := h
    have t0 := ta_Bits_Bits; have t1 := ta_Bits_slI8; have t2 := ta_Bits_slI64; have t3 := ta_Bits_slF; have t4 := ta_Bits_slI32; have t5 := ta_Bits_slA
    go_enter Tryd.func23, Tryd.ntmps23
    go_wp2
    go_ret
    exact ⟨_, rfl, Slc.nil _ _, below_new _ _⟩
  | @smalls s l h =>
    have HS := Lib.hid h
    obtain ⟨ao, cap, rfl, _, _, _, hc⟩ := h.opened
    clear h hc
    have t0 := ta_slI8_Bits; have t1 := ta_slI8_slI8; have t2 := ta_slI8_slI64; have t3 := ta_slI8_slF; have t4 := ta_slI8_slI32; have t5 := ta_slI8_slA
    go_enter Tryd.func23, Tryd.ntmps23
    go_wp2
    go_ret
    exact ⟨_, rfl, Slc.nil _ _, below_new _ _⟩
  | @ints s l h =>
    have HS := Lib.hid h
    obtain ⟨ao, cap, rfl, _, _, _, hc⟩ := h.opened
    clear h hc
    have t0 := ta_slI64_Bits; have t1 := ta_slI64_slI8; have t2 := ta_slI64_slI64; have t3 := ta_slI64_slF; have t4 := ta_slI64_slI32; have t5 := ta_slI64_slA
    go_enter Tryd.func23, Tryd.ntmps23
    go_wp2
    go_ret
    exact ⟨_, rfl, Slc.nil _ _, below_new _ _⟩
  | @floats s l h =>
    have HS := Lib.hid h
    obtain ⟨ao, cap, rfl, _, _, _, hc⟩ := h.opened
    clear h hc
    have t0 := ta_slF_Bits; have t1 := ta_slF_slI8; have t2 := ta_slF_slI64; have t3 := ta_slF_slF; have t4 := ta_slF_slI32; have t5 := ta_slF_slA
    go_enter Tryd.func23, Tryd.ntmps23
    go_wp2
    go_ret
    exact ⟨_, rfl, Slc.nil _ _, below_new _ _⟩
  | @chars s l h =>
    have HS := Lib.hid h
    obtain ⟨ao, cap, rfl, _, _, _, hc⟩ := h.opened
    clear h hc
    have t0 := ta_slI32_Bits; have t1 := ta_slI32_slI8; have t2 := ta_slI32_slI64; have t3 := ta_slI32_slF; have t4 := ta_slI32_slI32; have t5 := ta_slI32_slA
    go_enter Tryd.func23, Tryd.ntmps23
    go_wp2_with fail
    refine (CloneI32_calls _ _ _ (HS.out.below (below_new _ _)) (Nat.le_trans hok (by omega))).mono ?_
    rintro e w1 ⟨v1, rfl, hs, hB⟩
    have HS1 := Lib.hid (hs.keep (Kept.refl _ _) (ok' := fun b => w.heap.size ≤ b) (fun b _ h => by simp at h; omega))
    have HB := Lib.hid ((below_new w _).trans (hB.mono (by simp <;> omega)))
    clear hs hB
    go_wp2
    go_ret
    exact ⟨v1, rfl, by have := HS1.out; simpa only [VV.text] using this, HB.out⟩
  | @boxes ao cap l f g h1 h2 hc hs hv =>
    have t0 := ta_slA_Bits; have t1 := ta_slA_slI8; have t2 := ta_slA_slI64; have t3 := ta_slA_slF; have t4 := ta_slA_slI32; have t5 := ta_slA_slA
    go_enter Tryd.func23, Tryd.ntmps23
    go_wp2
    go_ret
    exact ⟨_, rfl, Slc.nil _ _, below_new _ _⟩

end Go.Proofs.YtnicoddkbcfijaaDoor

/- Layer 17, walked: Keys. -/
import Derived.Test.YtbdbpamefkgelaaGreatDoorRxR
import Derived.Test.YtbdbpamefkgelaaGreatDoorVeB
namespace Go.Proofs.YtbdbpamefkgelaaGreatDoor
set_option maxRecDepth 100000
open Go.RowKit Fl
set_option linter.unusedVariables false

theorem text_len9 (A : VV) : A.text.length ≤ A.len := by cases A <;> simp [VV.text, VV.len]
theorem whs_len9 (A : VV) : A.whs.length ≤ A.len := by cases A <;> simp [VV.whs, VV.len]
theorem slc_lower {w : World} {a b : Nat} {s : Value} {n : Nat} {xs : List Value} (h : Slc w (fun x => a ≤ x) s n xs) (hb : b ≤ a) : Slc w (fun x => b ≤ x) s n xs := h.keep (Kept.refl _ _) (fun x _ h2 => Nat.le_trans hb h2)
theorem whs_rng {A : VV} (hok : A.ok) (hn : A.nm) : ∀ z ∈ A.whs, -9223372036854775808 ≤ z ∧ z ≤ 9223372036854775807 := by
  intro z hz
  by_cases hw : A.isWh = true
  · have := (VV.wh_nums hok hn hw).2.2 z hz; omega
  · cases A <;> first | (exact absurd rfl hw) | (simp [VV.whs] at hz)
set_option maxHeartbeats 8000000 in
theorem rxkeys_calls {ok : Nat → Prop} (u : Value) (A : VV) (w : World) (h : IsV w ok u A) (hok : A.ok) (hn : ∀ z ∈ A.whs, -9223372036854775808 ≤ z ∧ z ≤ 9223372036854775807) (ht : ∀ z ∈ A.text, -2147483648 ≤ z ∧ z ≤ 2147483647) (hT : TabAt w) :
    Calls Tryz.prog 71 #[.agg #[u]] w fun e w' => ∃ v, e = .returned (.tuple #[v, .bool A.keyB]) ∧ Slc w' (fun b => w.heap.size ≤ b) v (keysV A).length (u64s (keysV A)) ∧ (A.keyB = false → v = .slice none 0 0) ∧ Below w.heap.size w w' := by
  have hsu := h.store
  obtain ⟨W1, hW1⟩ : ∃ W1, W1 = w.alloc (.cells #[u] 36) := ⟨_, rfl⟩
  have HB := Lib.hid (show Below w.heap.size w W1 by rw [hW1]; exact below_new _ _)
  have HA := Lib.hid (show At1 W1 w.heap.size u by rw [hW1]; exact At1.new w _ _)
  have HU := Lib.hid (show IsV W1 ok u A from h.grow HB.out)
  have HT := Lib.hid (show TabAt W1 from fun j hj => keep_below HB.out _ _ (hT j hj))
  have HOK := Lib.hid hok
  have HN := Lib.hid hn
  have HR := Lib.hid ht
  have HTL := Lib.hid (show A.text.length ≤ 1048576 from Nat.le_trans (text_len9 A) (VV.ok_len hok))
  have HWL := Lib.hid (show A.whs.length ≤ 1048576 from Nat.le_trans (whs_len9 A) (VV.ok_len hok))
  obtain ⟨kd, hkd⟩ : ∃ kd, A.kind = kd := ⟨_, rfl⟩
  have HKD := Lib.hid hkd
  have hfold := hW1.symm
  clear h hW1 hok hn ht hT hkd
  by_cases h5 : kd = 5
  · subst h5
    have HKB := Lib.hid (show A.keyB = true by unfold VV.keyB; rw [HKD.out]; rfl)
    have HKV := Lib.hid (show keysV A = A.text.map kR by unfold keysV; rw [if_pos HKD.out])
    have cHA0 := HA.out.2.1
    go_enter Tryz.func71, Tryz.ntmps71
    go_wp2_with fail
    clear hfold
    refine (kind_calls _ A _ HU.out).mono ?_
    rintro e W11 ⟨rfl, hB⟩
    clear cHA0
    replace HA := Lib.hid (HA.out.below hB)
    replace HB := Lib.hid (HB.out.trans (hB.mono HB.out.size))
    replace HU := Lib.hid (HU.out.grow hB)
    replace HT := Lib.hid (fun j hj => keep_below hB _ _ (HT.out j hj))
    rw [HKD.out]
    clear hB
    have cHA0 := HA.out.2.1
    go_wp2_with fail
    refine (vtext_calls _ A _ HU.out HOK.out).mono ?_
    rintro e W12 ⟨v1, rfl, hv1, hB⟩
    clear cHA0
    replace HA := Lib.hid (HA.out.below hB)
    replace HB := Lib.hid (HB.out.trans (hB.mono HB.out.size))
    replace HU := Lib.hid (HU.out.grow hB)
    replace HT := Lib.hid (fun j hj => keep_below hB _ _ (HT.out j hj))
    have HV := Lib.hid hv1
    clear hv1
    clear hB
    have cHA0 := HA.out.2.1
    go_wp2_with fail
    have HSZ := Lib.hid (HB.out.size)
    refine (rxkeysR_calls v1 A.text _ HV.out HTL.out HR.out).mono ?_
    rintro e W13 ⟨v2, rfl, hv2, hB⟩
    clear cHA0
    replace HA := Lib.hid (HA.out.below hB)
    replace HB := Lib.hid (HB.out.trans (hB.mono HB.out.size))
    replace HU := Lib.hid (HU.out.grow hB)
    replace HT := Lib.hid (fun j hj => keep_below hB _ _ (HT.out j hj))
    replace HV := Lib.hid (HV.out.below hB)
    have HZ := Lib.hid (slc_lower hv2 (show w.heap.size ≤ W12.heap.size from HSZ.out))
    clear hv2
    clear hB
    have cHA0 := HA.out.2.1
    go_wp2_with fail
    go_ret2
    exact ⟨v2, by rw [HKB.out]; rfl, by have := HZ.out; rw [HKV.out, List.length_map]; exact this, fun h => absurd (h.symm.trans HKB.out) (by decide), HB.out⟩
  · have h5t : (kd == 5) = false := by simpa using h5
    have H5 := Lib.hid h5
    obtain ⟨wb, hwb⟩ : ∃ wb, A.isWh = wb := ⟨_, rfl⟩
    have HWB := Lib.hid hwb
    have HKB := Lib.hid (show A.keyB = wb by unfold VV.keyB; rw [HKD.out, decide_eq_false h5, Bool.false_or, hwb])
    have HKV := Lib.hid (show keysV A = A.whs.map kI by unfold keysV; rw [HKD.out, if_neg h5])
    clear h5 hwb
    cases wb
    · have HW0 := Lib.hid (show A.whs = [] by have h := HWB.out; revert h; cases A <;> simp [VV.isWh, VV.whs])
      have cHA0 := HA.out.2.1
      go_enter Tryz.func71, Tryz.ntmps71
      go_wp2_with fail
      clear hfold
      refine (kind_calls _ A _ HU.out).mono ?_
      rintro e W11 ⟨rfl, hB⟩
      clear cHA0
      replace HA := Lib.hid (HA.out.below hB)
      replace HB := Lib.hid (HB.out.trans (hB.mono HB.out.size))
      replace HU := Lib.hid (HU.out.grow hB)
      replace HT := Lib.hid (fun j hj => keep_below hB _ _ (HT.out j hj))
      rw [HKD.out]
      clear hB
      have cHA0 := HA.out.2.1
      go_wp2_with fail
      refine (vwholes_calls _ A _ HU.out HOK.out HT.out).mono ?_
      rintro e W12 ⟨v1, rfl, hv1, hB⟩
      clear cHA0
      replace HA := Lib.hid (HA.out.below hB)
      replace HB := Lib.hid (HB.out.trans (hB.mono HB.out.size))
      replace HU := Lib.hid (HU.out.grow hB)
      replace HT := Lib.hid (fun j hj => keep_below hB _ _ (HT.out j hj))
      rw [HWB.out]
      clear hv1
      clear hB
      have cHA0 := HA.out.2.1
      go_wp2_with fail
      go_ret2
      exact ⟨_, by rw [HKB.out]; rfl, by rw [HKV.out, HW0.out]; exact Slc.nil _ _, fun _ => rfl, HB.out⟩
    · have cHA0 := HA.out.2.1
      go_enter Tryz.func71, Tryz.ntmps71
      go_wp2_with fail
      clear hfold
      refine (kind_calls _ A _ HU.out).mono ?_
      rintro e W11 ⟨rfl, hB⟩
      clear cHA0
      replace HA := Lib.hid (HA.out.below hB)
      replace HB := Lib.hid (HB.out.trans (hB.mono HB.out.size))
      replace HU := Lib.hid (HU.out.grow hB)
      replace HT := Lib.hid (fun j hj => keep_below hB _ _ (HT.out j hj))
      rw [HKD.out]
      clear hB
      have cHA0 := HA.out.2.1
      go_wp2_with fail
      refine (vwholes_calls _ A _ HU.out HOK.out HT.out).mono ?_
      rintro e W12 ⟨v1, rfl, hv1, hB⟩
      clear cHA0
      replace HA := Lib.hid (HA.out.below hB)
      replace HB := Lib.hid (HB.out.trans (hB.mono HB.out.size))
      replace HU := Lib.hid (HU.out.grow hB)
      replace HT := Lib.hid (fun j hj => keep_below hB _ _ (HT.out j hj))
      rw [HWB.out]
      have HV := Lib.hid hv1
      clear hv1
      clear hB
      have cHA0 := HA.out.2.1
      go_wp2_with fail
      have HSZ := Lib.hid (HB.out.size)
      refine (rxkeysI_calls v1 A.whs _ HV.out HWL.out HN.out).mono ?_
      rintro e W13 ⟨v2, rfl, hv2, hB⟩
      clear cHA0
      replace HA := Lib.hid (HA.out.below hB)
      replace HB := Lib.hid (HB.out.trans (hB.mono HB.out.size))
      replace HU := Lib.hid (HU.out.grow hB)
      replace HT := Lib.hid (fun j hj => keep_below hB _ _ (HT.out j hj))
      replace HV := Lib.hid (HV.out.below hB)
      have HZ := Lib.hid (slc_lower hv2 HSZ.out)
      clear hv2
      clear hB
      have cHA0 := HA.out.2.1
      go_wp2_with fail
      go_ret2
      exact ⟨v2, by rw [HKB.out]; rfl, by have := HZ.out; rw [HKV.out, List.length_map]; exact this, fun h => absurd (h.symm.trans HKB.out) (by decide), HB.out⟩
end Go.Proofs.YtbdbpamefkgelaaGreatDoor

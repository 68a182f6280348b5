/- Layer 18, walked: Grade. Written by tools/gen_mgv.py. -/
import Derived.Test.YtbdbpamefkgelaaGreatDoorMgU
namespace Go.Proofs.YtbdbpamefkgelaaGreatDoor
set_option maxRecDepth 100000
open Go.RowKit Fl
set_option linter.unusedVariables false

set_option maxHeartbeats 8000000 in
theorem mggrade_yes {ok : Nat → Prop} (u : Value) (A : VV) (size : Nat) (down : Bool) (w : World) (h : IsV w ok u A) (hA : A.ok ∧ A.nm) (ht : ∀ z ∈ A.text, -2147483648 ≤ z ∧ z ≤ 2147483647) (hc : A.cls < 2) (hk : A.kind ≠ 0) (hs : 0 < size) (hsm : size ≤ 1048576) (hT : TabAt w) :
    Calls Tryz.prog 15 #[.agg #[u], .int .i64 (size : Int), .bool down] w (MgYes A size down w) := by
  have hsu := h.store
  obtain ⟨W1, hW1⟩ : ∃ W1, W1 = w.alloc (.cells #[u] 36) := ⟨_, rfl⟩
  have HB := Lib.hid (show Below w.heap.size w W1 by rw [hW1]; exact below_new _ _)
  have HV := Lib.hid (show At1 W1 w.heap.size u by rw [hW1]; exact At1.new w _ _)
  have HU := Lib.hid (show IsV W1 ok u A from h.grow HB.out)
  have HT := Lib.hid (show TabAt W1 from fun j hj => keep_below HB.out _ _ (hT j hj))
  have hfold := hW1.symm
  have HC := Lib.hid (show ∀ wx : World, IsV wx ok u A → TabAt wx → Calls Tryz.prog 16 #[.agg #[u], .int .i64 (size : Int), .bool down] wx (MgYes A size down wx) from fun wx h1 h2 => mgcells_yes u A size down wx h1 hA ht hc hk hs hsm h2)
  have HG := Lib.hid (show ∀ wx : World, IsV wx ok u A → TabAt wx → Calls Tryz.prog 35 #[.agg #[u], .bool down] wx (GradeIs A down wx) from fun wx h1 h2 => rxgrade_calls u A down wx h1 hA.1 hA.2 ht h2)
  have cHV0 := HV.out.2.1
  clear hW1 h hA ht hc hk hT
  by_cases h1 : size = 1
  · subst h1
    obtain ⟨kb, hkb⟩ : ∃ kb, A.keyB = kb := ⟨_, rfl⟩
    have HKB := Lib.hid hkb
    clear hkb
    go_enter Tryz.func15, Tryz.ntmps15
    go_wp2_with fail
    clear hfold
    refine (HG.out _ HU.out HT.out).mono ?_
    rintro e W2 ⟨v, rfl, hv, hn, hB⟩
    rw [HKB.out]
    have HV2 := Lib.hid hv
    have hsv : ∃ ao cap, v = .slice ao (grL A down).length cap := by obtain ⟨a1, c1, h1, _⟩ := hv.opened; exact ⟨a1, c1, h1⟩
    obtain ⟨vo, vc, rfl⟩ := hsv
    clear cHV0 hv hn
    replace HV := Lib.hid (HV.out.below hB)
    replace HU := Lib.hid (HU.out.grow hB)
    replace HT := Lib.hid (fun j hj => keep_below hB _ _ (HT.out j hj))
    have HSZ := Lib.hid HB.out.size
    replace HB := Lib.hid (HB.out.trans (hB.mono HB.out.size))
    clear hB
    cases kb
    · have cHV0 := HV.out.2.1
      go_wp2_with fail
      refine (HC.out _ HU.out HT.out).mono ?_
      rintro e W3 ⟨v, rfl, hv, hB⟩
      have HSZ2 := Lib.hid HB.out.size
      replace HB := Lib.hid (HB.out.trans (hB.mono HB.out.size))
      clear hB
      go_wp2
      go_ret2
      exact ⟨_, rfl, hv.keep (Kept.refl _ _) (fun b _ h => Nat.le_trans HSZ2.out h), HB.out⟩
    · go_wp2
      go_ret2
      refine ⟨_, rfl, ?_, HB.out⟩
      have e1 : mgL A 1 down = grL A down := by unfold mgL grL; rw [if_pos HKB.out, Nat.div_one]
      rw [e1, Nat.div_one, ← grL_len HKB.out down]
      exact HV2.out.keep (Kept.refl _ _) (fun b _ h => Nat.le_trans HSZ.out h)
  · have hs1 : ((size : Int) == 1) = false := by rw [beq_eq_false_iff_ne]; omega
    go_enter Tryz.func15, Tryz.ntmps15
    go_wp2_with fail
    clear hfold
    refine (HC.out _ HU.out HT.out).mono ?_
    rintro e W3 ⟨v, rfl, hv, hB⟩
    have HSZ2 := Lib.hid HB.out.size
    replace HB := Lib.hid (HB.out.trans (hB.mono HB.out.size))
    clear hB
    go_wp2
    go_ret2
    exact ⟨_, rfl, hv.keep (Kept.refl _ _) (fun b _ h => Nat.le_trans HSZ2.out h), HB.out⟩
theorem keyB_boxes {A : VV} (h : A.cls = 2) : A.keyB = false := by cases A <;> simp_all [VV.cls, VV.keyB, VV.kind, VV.isWh]
set_option maxHeartbeats 8000000 in
theorem mggrade_no {ok : Nat → Prop} (u : Value) (A : VV) (z : Int) (down : Bool) (w : World) (h : IsV w ok u A) (hA : A.ok ∧ A.nm) (hz : A.cls = 2 ∨ z < 1) (hT : TabAt w) :
    Calls Tryz.prog 15 #[.agg #[u], .int .i64 z, .bool down] w (MgNo w) := by
  have hsu := h.store
  obtain ⟨W1, hW1⟩ : ∃ W1, W1 = w.alloc (.cells #[u] 36) := ⟨_, rfl⟩
  have HB := Lib.hid (show Below w.heap.size w W1 by rw [hW1]; exact below_new _ _)
  have HV := Lib.hid (show At1 W1 w.heap.size u by rw [hW1]; exact At1.new w _ _)
  have HU := Lib.hid (show IsV W1 ok u A from h.grow HB.out)
  have HT := Lib.hid (show TabAt W1 from fun j hj => keep_below HB.out _ _ (hT j hj))
  have hfold := hW1.symm
  have HC := Lib.hid (show ∀ wx : World, IsV wx ok u A → TabAt wx → Calls Tryz.prog 16 #[.agg #[u], .int .i64 z, .bool down] wx (MgNo wx) from fun wx h1 h2 => mgcells_no u A z down wx h1 hA hz h2)
  have cHV0 := HV.out.2.1
  clear hW1 hT h
  by_cases h1 : z = 1
  · subst h1
    have h2 : A.cls = 2 := by rcases hz with h | h; exact h; omega
    have HKB := Lib.hid (keyB_boxes h2)
    have HG := Lib.hid (show ∀ wx : World, IsV wx ok u A → TabAt wx → Calls Tryz.prog 35 #[.agg #[u], .bool down] wx (GradeIs A down wx) from fun wx h1 h3 => rxgrade_calls u A down wx h1 hA.1 hA.2 (fun z hz => by cases A <;> simp_all [VV.cls, VV.text]) h3)
    clear h2 hz hA
    go_enter Tryz.func15, Tryz.ntmps15
    go_wp2_with fail
    clear hfold
    refine (HG.out _ HU.out HT.out).mono ?_
    rintro e W2 ⟨v, rfl, hv, hn, hB⟩
    rw [HKB.out]
    have e9 := hn HKB.out
    subst e9
    clear cHV0 hv hn
    replace HV := Lib.hid (HV.out.below hB)
    replace HU := Lib.hid (HU.out.grow hB)
    replace HT := Lib.hid (fun j hj => keep_below hB _ _ (HT.out j hj))
    have HSZ := Lib.hid HB.out.size
    replace HB := Lib.hid (HB.out.trans (hB.mono HB.out.size))
    clear hB
    have cHV0 := HV.out.2.1
    go_wp2_with fail
    refine (HC.out _ HU.out HT.out).mono ?_
    rintro e W3 ⟨rfl, hB⟩
    replace HB := Lib.hid (HB.out.trans (hB.mono HB.out.size))
    clear hB
    go_wp2
    go_ret2
    exact ⟨rfl, HB.out⟩
  · have hs1 : (z == 1) = false := by rw [beq_eq_false_iff_ne]; exact h1
    clear hz hA
    go_enter Tryz.func15, Tryz.ntmps15
    go_wp2_with fail
    clear hfold
    refine (HC.out _ HU.out HT.out).mono ?_
    rintro e W3 ⟨rfl, hB⟩
    replace HB := Lib.hid (HB.out.trans (hB.mono HB.out.size))
    clear hB
    go_wp2
    go_ret2
    exact ⟨rfl, HB.out⟩
end Go.Proofs.YtbdbpamefkgelaaGreatDoor

/- Package value, walked: goodWithin, Good. -/
import Derived.Test.YtkgjemglmgdanaaDoorVaK
namespace Go.Proofs.YtkgjemglmgdanaaDoor
open Go.RowKit Fl
set_option linter.unusedVariables false
set_option maxRecDepth 8000

theorem Arrs.at {w : World} {ok : Nat → Prop} {ao : Option Addr} {n cap k : Nat} {l : List (List Int × VV)} {p : List Int × VV} (h : Arrs w ok (.slice ao n cap) l) (hx : l[k]? = some p) :
    ∃ b off so sc u, ao = some ⟨b, off, none⟩ ∧ ok b ∧ w.cell? ⟨b, off + k * 2, none⟩ = some (.slice so p.1.length sc) ∧ w.cell? ⟨b, off + k * 2 + 1, none⟩ = some u ∧ IsArr w ok (.slice so p.1.length sc) u p := by
  obtain ⟨ao', cap', f, g, e, h1, h2, hc, hs, hv⟩ := h
  cases e
  obtain ⟨hk, e⟩ := List.getElem?_eq_some_iff.1 hx
  obtain ⟨b, off, e2, hb, c0, c1⟩ := hc k hk
  have h3 := hs k hk
  have h4 := hv k hk
  rw [e] at h3 h4
  obtain ⟨so, sc, e3, _⟩ := h3.opened
  rw [e3] at h3 c0
  exact ⟨b, off, so, sc, g k, e2, hb, c0, c1, h3, h4⟩
theorem Arrs.len {w : World} {ok : Nat → Prop} {v : Value} {l : List (List Int × VV)} (h : Arrs w ok v l) : ∃ ao cap, v = .slice ao l.length cap ∧ l.length ≤ cap ∧ cap ≤ maxLen := by
  obtain ⟨ao, cap, f, g, e, h1, h2, _⟩ := h
  exact ⟨ao, cap, e, h1, h2⟩
/-- A good array, at most d of them in one another. -/
def gA : Nat → List Int × VV → Prop
  | 0, _ => False
  | d + 1, A => prodR A.1 1048576 = ((A.2.len : Int), 0) ∧ A.2.ok ∧ A.2.nm ∧ A.2.kind = A.2.least ∧ ∀ a ∈ A.2.boxs, gA d a
theorem gA_mono {d : Nat} : ∀ {A : List Int × VV} {e : Nat}, d ≤ e → gA d A → gA e A := by
  induction d with
  | zero => intro A e _ h; exact h.elim
  | succ d ih =>
    intro A e he h
    obtain ⟨e, rfl⟩ : ∃ e', e = e' + 1 := ⟨e - 1, by omega⟩
    exact ⟨h.1, h.2.1, h.2.2.1, h.2.2.2.1, fun a ha => ih (by omega) (h.2.2.2.2 a ha)⟩

set_option maxHeartbeats 4000000 in
theorem good_at (d : Nat) : ∀ (ok : Nat → Prop) (A : List Int × VV) (sh u : Value) (w : World), d ≤ 1000 → gA d A → IsArr w ok sh u A → TabAt w →
    Calls Tryd.prog 24 #[.agg #[sh, u], .int .i64 (d : Int)] w (BoolIs true w) := by
  induction d with
  | zero => intro ok A sh u w _ h; exact h.elim
  | succ d ih =>
    intro ok A sh u w hd hg hA hT
    obtain ⟨hpr, hok, hnm, htl, hbx⟩ := hg
    obtain ⟨s, V⟩ := A
    simp only at hpr hok hnm htl hbx
    obtain ⟨hs, hv⟩ := hA
    simp only at hs hv
    obtain ⟨so, sc, rfl, e6, e7, _⟩ := hs.opened
    have hsl := (prodR_len hpr).1
    have hvl := (prodR_len hpr).2
    have HIH := Lib.hid ih
    have HOK := Lib.hid hok
    have HNM := Lib.hid hnm
    have HTL := Lib.hid htl
    have HBX := Lib.hid hbx
    have hsx := hv.store
    obtain ⟨W1, hW1⟩ : ∃ W1, W1 = w.alloc (.cells #[.slice so s.length sc, u] 31) := ⟨_, rfl⟩
    have HA := Lib.hid (show At2 W1 w.heap.size (.slice so s.length sc) u by rw [hW1]; exact At2.new _ _ _ _)
    have HB1 := Lib.hid (show Below w.heap.size w W1 by rw [hW1]; exact below_new _ _)
    have HV := Lib.hid (hv.grow HB1.out)
    have HS := Lib.hid (hs.below HB1.out)
    have HT0 := Lib.hid hT
    have HPR := Lib.hid (show Calls Tryd.prog 43 #[.slice so s.length sc, .int .i64 1048576] W1 fun e w' => e = .returned (.tuple #[.int .i64 (V.len : Int), .int .i64 0]) ∧ Below W1.heap.size W1 w' by
      have := sproduct_calls _ s 1048576 W1 HS.out (by omega)
      rw [hpr] at this; exact this)
    have hd0 : ((d : Int) + 1 == 0) = false := by simp; omega
    rw [show ((d + 1 : Nat) : Int) = (d : Int) + 1 by omega]
    obtain ⟨_, a0, a1, _⟩ := HA.out
    have hfold := hW1.symm
    clear hpr hok hnm htl hbx hs hv hT ih hW1
    go_enter Tryd.func24, Tryd.ntmps24
    go_wp2_with fail
    refine HPR.out.mono ?_
    rintro e w2 ⟨rfl, hB⟩
    have HA2 := Lib.hid (HA.out.below hB)
    have HV2 := Lib.hid (HV.out.grow hB)
    have HB2 := Lib.hid (HB1.out.trans (hB.mono HB1.out.size))
    clear a0 a1 hfold hB
    obtain ⟨_, a0, a1, _⟩ := HA2.out
    go_wp2_with fail
    refine (vlen_calls _ _ _ HV2.out).mono ?_
    rintro e w3 ⟨rfl, hB⟩
    have HA3 := Lib.hid (HA2.out.below hB)
    have HV3 := Lib.hid (HV2.out.grow hB)
    have HB3 := Lib.hid (HB2.out.trans (hB.mono HB2.out.size))
    have HT3 := Lib.hid (show TabAt w3 from fun j hj => keep_below HB3.out _ _ (HT0.out j hj))
    clear a0 a1 hB
    obtain ⟨_, a0, a1, _⟩ := HA3.out
    have hne : ((V.len : Int) != (V.len : Int)) = false := by simp
    go_wp2_with fail
    refine (tight_calls _ _ _ HV3.out HOK.out HNM.out HT3.out).mono ?_
    rintro e w4 ⟨rfl, hB⟩
    have HA4 := Lib.hid (HA3.out.below hB)
    have HV4 := Lib.hid (HV3.out.grow hB)
    have HB4 := Lib.hid (HB3.out.trans (hB.mono HB3.out.size))
    rw [decide_eq_true HTL.out]
    clear a0 a1 hB hne
    obtain ⟨_, a0, a1, _⟩ := HA4.out
    go_wp2_with fail
    refine (vpacked_calls _ _ _ HV4.out).mono ?_
    rintro e w5 ⟨pb, rfl, hpb, hB⟩
    have HPB := Lib.hid hpb
    obtain ⟨pao, pcap, rfl, _⟩ := hpb.opened
    obtain ⟨W5, hW5⟩ : ∃ W5, W5 = w5.alloc (.cells #[.int .i64 (V.packed.length : Int), .slice pao ((V.packed.length + 63) / 64) pcap] 57) := ⟨_, rfl⟩
    have HN5 := Lib.hid (show Below w5.heap.size w5 W5 by rw [hW5]; exact below_new _ _)
    have HP5 := Lib.hid (show At2 W5 w5.heap.size _ _ by rw [hW5]; exact At2.new _ (.int .i64 (V.packed.length : Int)) (.slice pao ((V.packed.length + 63) / 64) pcap) _)
    have HPB5 := Lib.hid (HPB.out.keep (keep_below HN5.out))
    have HA5 := Lib.hid ((HA4.out.below hB).below HN5.out)
    have HV5 := Lib.hid ((HV4.out.grow hB).grow HN5.out)
    have HB5 := Lib.hid ((HB4.out.trans (hB.mono HB4.out.size)).trans (HN5.out.mono (Nat.le_trans HB4.out.size hB.size)))
    have HPL := Lib.hid (show V.packed.length ≤ 1048576 by
      have := HOK.out
      cases V <;> simp_all [VV.packed, VV.ok])
    clear a0 a1 hB hpb
    obtain ⟨_, a0, a1, _⟩ := HA5.out
    obtain ⟨_, b0, b1, _⟩ := HP5.out
    have hfold := hW5.symm
    clear hW5
    go_wp2_with fail
    refine (tidy_calls _ _ _ HPB5.out HPL.out).mono ?_
    rintro e w6 ⟨rfl, hB⟩
    have HA6 := Lib.hid (HA5.out.below hB)
    have HV6 := Lib.hid (HV5.out.grow hB)
    have HB6 := Lib.hid (HB5.out.trans (hB.mono HB5.out.size))
    clear a0 a1 b0 b1 hfold
    clear hB
    obtain ⟨_, a0, a1, _⟩ := HA6.out
    go_wp2_with fail
    refine (varrays_calls _ _ _ HV6.out HOK.out).mono ?_
    rintro e w7 ⟨va, rfl, hva, hB⟩
    have HVA := Lib.hid hva
    obtain ⟨vao, vcap, rfl, v1, v2⟩ := hva.len
    unfold maxLen at v2
    have HB7 := Lib.hid (HB6.out.trans (hB.mono HB6.out.size))
    clear a0 a1 hB hva
    go_wp2_with fail
    go_loopw [47] (fun i wr => ∃ k : Nat, k ≤ V.boxs.length ∧ i = .int .i64 k ∧ Below w7.heap.size w7 wr) (fun i _ => V.boxs.length - (intOf i).toNat)
    case atStart => exact ⟨0, by omega, rfl, Below.refl _ _⟩
    case round =>
      obtain ⟨k, hk, rfl, hB⟩ := hrel
      have HB := Lib.hid hB
      have HBr := Lib.hid (HB7.out.trans (hB.mono HB7.out.size))
      clear hB
      by_cases hlt : k < V.boxs.length
      · have hx := List.getElem?_eq_getElem hlt
        obtain ⟨R, hR⟩ : ∃ R, R = V.boxs[k] := ⟨_, rfl⟩
        rw [← hR] at hx
        clear hR
        obtain ⟨b, off, so2, sc2, u2, rfl, _, c0, c1, hAR⟩ := (HVA.out.grow HB.out).at hx
        obtain ⟨W8, hW8⟩ : ∃ W8, W8 = wr.alloc (.cells #[.slice so2 R.1.length sc2, u2] 31) := ⟨_, rfl⟩
        have HA8 := Lib.hid (show At2 W8 wr.heap.size _ _ by rw [hW8]; exact At2.new _ (.slice so2 R.1.length sc2) u2 _)
        have HN8 := Lib.hid (show Below wr.heap.size wr W8 by rw [hW8]; exact below_new _ _)
        have HB8 := Lib.hid (HBr.out.trans (HN8.out.mono HBr.out.size))
        have hsx2 := hAR.2.store
        have HQ := Lib.hid (HIH.out _ R _ _ W8 (by omega) (HBX.out R (List.mem_of_getElem? hx)) (hAR.grow HN8.out) (fun j hj => keep_below HB8.out _ _ (HT0.out j hj)))
        have HD := Lib.hid (show (d : Int) + 1 - 1 = d by omega)
        obtain ⟨_, a0, a1, _⟩ := HA8.out
        have hfold := hW8.symm
        have hdd := HD.out
        clear hx hAR hW8
        go_wp2_with fail
        refine HQ.out.mono ?_
        rintro e w9 ⟨rfl, hB⟩
        have HB9 := Lib.hid (HB.out.trans ((HN8.out.trans (hB.mono HN8.out.size)).mono HB.out.size))
        clear hB a0 a1 hfold hdd c0 c1
        go_wp2_with fail
        go_roundw
        case rel => exact ⟨k + 1, by omega, by go_num, HB9.out⟩
        case measure => simp [intOf]; omega
      · go_wp2_with fail
        go_ret
        exact BoolIs.mk rfl HBr.out
theorem good_calls {ok : Nat → Prop} (A : List Int × VV) (sh u : Value) (w : World) (hg : gA 40 A) (hA : IsArr w ok sh u A) (hT : TabAt w) : Calls Tryd.prog 10 #[.agg #[sh, u]] w (BoolIs true w) := by
  have HA := Lib.hid hA
  have HT := Lib.hid hT
  have hsx := hA.2.store
  obtain ⟨so, sc, rfl, _⟩ := hA.1.opened
  have HQ := Lib.hid (good_at 40 ok A _ u (w.alloc (.cells #[.slice so A.1.length sc, u] 31)) (by omega) hg (HA.out.grow (below_new _ _)) (fun j hj => keep_below (below_new _ _) _ _ (HT.out j hj)))
  clear hg hA hT
  go_enter Tryd.func10, Tryd.ntmps10
  go_wp2_with fail
  refine HQ.out.mono ?_
  rintro e w2 ⟨rfl, hB⟩
  have HB := Lib.hid ((below_new w (.cells #[.slice so A.1.length sc, u] 31)).trans (hB.mono (by simp)))
  clear hB
  go_wp2_with fail
  go_ret
  exact BoolIs.mk rfl HB.out
theorem good_none_at (w : World) : Calls Tryd.prog 24 #[.agg #[.slice none 0 0, .nilIface], .int .i64 40] w (BoolIs false w) := by
  obtain ⟨W1, hW1⟩ : ∃ W1, W1 = w.alloc (.cells #[.slice none 0 0, .nilIface] 31) := ⟨_, rfl⟩
  have HA := Lib.hid (show At2 W1 w.heap.size (.slice none 0 0) .nilIface by rw [hW1]; exact At2.new _ _ _ _)
  have HB1 := Lib.hid (show Below w.heap.size w W1 by rw [hW1]; exact below_new _ _)
  have HPR := Lib.hid (show Calls Tryd.prog 43 #[.slice none 0 0, .int .i64 1048576] W1 fun e w' => e = .returned (.tuple #[.int .i64 1, .int .i64 0]) ∧ Below W1.heap.size W1 w' from sproduct_calls (ok := fun _ => True) _ [] 1048576 W1 (Slc.nil _ _) (by decide))
  obtain ⟨_, a0, a1, _⟩ := HA.out
  have hfold := hW1.symm
  clear hW1
  go_enter Tryd.func24, Tryd.ntmps24
  go_wp2_with fail
  refine HPR.out.mono ?_
  rintro e w2 ⟨rfl, hB⟩
  have HA2 := Lib.hid (HA.out.below hB)
  have HB2 := Lib.hid (HB1.out.trans (hB.mono HB1.out.size))
  clear a0 a1 hfold hB
  obtain ⟨_, a0, a1, _⟩ := HA2.out
  go_wp2_with fail
  refine (vlen_calls (ok := fun _ => True) .nilIface .none _ .none).mono ?_
  rintro e w3 ⟨rfl, hB⟩
  have HB3 := Lib.hid (HB2.out.trans (hB.mono HB2.out.size))
  have HA3 := Lib.hid (HA2.out.below hB)
  clear a0 a1 hB
  obtain ⟨_, a0, a1, _⟩ := HA3.out
  simp only [VV.len]
  go_wp2_with fail
  go_ret
  exact BoolIs.mk rfl HB3.out
/-- The array that is none is not good. -/
theorem good_none (w : World) : Calls Tryd.prog 10 #[.agg #[.slice none 0 0, .nilIface]] w (BoolIs false w) := by
  have HQ := Lib.hid (good_none_at (w.alloc (.cells #[.slice none 0 0, .nilIface] 31)))
  go_enter Tryd.func10, Tryd.ntmps10
  go_wp2_with fail
  refine HQ.out.mono ?_
  rintro e w2 ⟨rfl, hB⟩
  have HB := Lib.hid ((below_new w (.cells #[.slice none 0 0, .nilIface] 31)).trans (hB.mono (by simp)))
  clear hB
  go_wp2_with fail
  go_ret
  exact BoolIs.mk rfl HB.out
end Go.Proofs.YtkgjemglmgdanaaDoor

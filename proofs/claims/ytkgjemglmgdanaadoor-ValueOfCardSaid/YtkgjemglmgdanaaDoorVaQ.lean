/- Package value, walked: Rank, Single, Depth. -/
import Derived.Test.YtkgjemglmgdanaaDoorVaP
import Derived.Test.YtkgjemglmgdanaaDoorVaF
namespace Go.Proofs.YtkgjemglmgdanaaDoor
open Go.RowKit Fl
set_option linter.unusedVariables false
set_option maxRecDepth 8000

theorem vrank_calls {ok : Nat → Prop} (A : List Int × VV) (sh u : Value) (w : World) (hA : IsArr w ok sh u A) : Calls Tryd.prog 16 #[.agg #[sh, u]] w (IntIs (A.1.length : Int) w) := by
  obtain ⟨so, sc, rfl, _⟩ := hA.1.opened
  have hsx := hA.2.store
  clear hA
  go_enter Tryd.func16, Tryd.ntmps16
  go_wp2_with fail
  go_ret
  exact IntIs.mk rfl (below_new _ _)
theorem single_calls {ok : Nat → Prop} (A : List Int × VV) (sh u : Value) (w : World) (hA : IsArr w ok sh u A) : Calls Tryd.prog 17 #[.agg #[sh, u]] w (BoolIs (decide (A.2.len = 1)) w) := by
  obtain ⟨so, sc, rfl, _⟩ := hA.1.opened
  have hsx := hA.2.store
  have HV := Lib.hid (hA.2.grow (below_new w (.cells #[.slice so A.1.length sc, u] 31)))
  have HB := Lib.hid (below_new w (.cells #[.slice so A.1.length sc, u] 31))
  clear hA
  by_cases h1 : A.2.len = 1
  · have hb : ((A.2.len : Int) == 1) = true := by simp; omega
    have HC := Lib.hid (decide_eq_true h1)
    go_enter Tryd.func17, Tryd.ntmps17
    go_wp2_with fail
    refine (vlen_calls _ _ _ HV.out).mono ?_
    rintro e w2 ⟨rfl, hB⟩
    have HB2 := Lib.hid (HB.out.trans (hB.mono HB.out.size))
    clear hB
    go_wp2_with fail
    go_ret
    exact BoolIs.mk HC.out.symm HB2.out
  · have hb : ((A.2.len : Int) == 1) = false := by simp; omega
    have HC := Lib.hid (decide_eq_false h1)
    go_enter Tryd.func17, Tryd.ntmps17
    go_wp2_with fail
    refine (vlen_calls _ _ _ HV.out).mono ?_
    rintro e w2 ⟨rfl, hB⟩
    have HB2 := Lib.hid (HB.out.trans (hB.mono HB.out.size))
    clear hB
    go_wp2_with fail
    go_ret
    exact BoolIs.mk HC.out.symm HB2.out
/-- How deep arrays lie in one another. -/
def depA : Nat → List Int × VV → Int
  | 0, _ => 0
  | d + 1, A => if A.2.cls = 2 then 1 + mx (A.2.boxs.map (depA d)) else if 0 < A.1.length then 1 else 0
theorem depA_bd (d : Nat) : ∀ A, 0 ≤ depA d A ∧ depA d A ≤ d := by
  induction d with
  | zero => intro p; simp [depA]
  | succ d ih =>
    intro A
    simp only [depA]
    split
    · have h1 := mx_nonneg (A.2.boxs.map (depA d))
      have h2 : mx (A.2.boxs.map (depA d)) ≤ d := mx_le (by omega) (by
        intro x hx
        obtain ⟨y, _, rfl⟩ := List.mem_map.1 hx
        exact (ih _).2)
      omega
    · split <;> omega

set_option maxHeartbeats 4000000 in
theorem vdepth_at (d : Nat) : ∀ (ok : Nat → Prop) (A : List Int × VV) (sh u : Value) (w : World), d ≤ 1000 → dA d A → IsArr w ok sh u A → Calls Tryd.prog 14 #[.agg #[sh, u]] w (IntIs (depA d A) w) := by
  induction d with
  | zero => intro ok A sh u w _ h; exact h.elim
  | succ d ih =>
    intro ok A sh u w hd hg hA
    obtain ⟨s, V⟩ := A
    obtain ⟨hsl, hok, hbx⟩ := hg
    simp only at hsl hok hbx
    have HARR := Lib.hid hA
    obtain ⟨hs, hv⟩ := hA
    simp only at hs hv
    obtain ⟨so, sc, rfl, e6, e7, _⟩ := hs.opened
    have HIH := Lib.hid ih
    have HOK := Lib.hid hok
    have HBX := Lib.hid hbx
    have hsx := hv.store
    obtain ⟨W1, hW1⟩ : ∃ W1, W1 = w.alloc (.cells #[.slice so s.length sc, u] 31) := ⟨_, rfl⟩
    have HA := Lib.hid (show At2 W1 w.heap.size (.slice so s.length sc) u by rw [hW1]; exact At2.new _ _ _ _)
    have HB1 := Lib.hid (show Below w.heap.size w W1 by rw [hW1]; exact below_new _ _)
    have HV := Lib.hid (hv.grow HB1.out)
    obtain ⟨_, a0, a1, _⟩ := HA.out
    have hfold := hW1.symm
    clear hok hbx hs hv ih hW1
    by_cases hc : V.cls = 2
    · have HD := Lib.hid (show depA (d + 1) (s, V) = 1 + mx (V.boxs.map (depA d)) by simp only [depA]; rw [if_pos hc])
      have HC := Lib.hid hc
      clear hc
      go_enter Tryd.func14, Tryd.ntmps14
      go_wp2_with fail
      refine (class_calls _ _ _ HV.out).mono ?_
      rintro e w2 ⟨rfl, hB⟩
      have HA2 := Lib.hid (HA.out.below hB)
      have HV2 := Lib.hid (HV.out.grow hB)
      have HB2 := Lib.hid (HB1.out.trans (hB.mono HB1.out.size))
      rw [HC.out]
      clear a0 a1 hfold hB
      obtain ⟨_, a0, a1, _⟩ := HA2.out
      go_wp2_with fail
      refine (varrays_calls _ _ _ HV2.out HOK.out).mono ?_
      rintro e w7 ⟨va, rfl, hva, hB⟩
      have HVA := Lib.hid hva
      obtain ⟨vao, vcap, rfl, v1, v2⟩ := hva.len
      unfold maxLen at v2
      have HB7 := Lib.hid (HB2.out.trans (hB.mono HB2.out.size))
      clear a0 a1 hB hva
      go_wp2_with fail
      go_loopw [3, 17] (fun m i wr => ∃ (k : Nat) (q : Int), k ≤ V.boxs.length ∧ i = .int .i64 k ∧ m = .int .i64 q ∧ q = mx ((V.boxs.take k).map (depA d)) ∧ 0 ≤ q ∧ q ≤ d ∧ Below w7.heap.size w7 wr) (fun _ i _ => V.boxs.length - (intOf i).toNat)
      case atStart => exact ⟨0, 0, by omega, rfl, rfl, rfl, by omega, by omega, Below.refl _ _⟩
      case round =>
        obtain ⟨k, q, hk, rfl, rfl, hq, hq0, hq1, hB⟩ := hrel
        have HQQ := Lib.hid hq
        have HB := Lib.hid hB
        have HBr := Lib.hid (HB7.out.trans (hB.mono HB7.out.size))
        clear hB hq
        by_cases hlt : k < V.boxs.length
        · have hx := List.getElem?_eq_getElem hlt
          obtain ⟨R, hR⟩ : ∃ R, R = V.boxs[k] := ⟨_, rfl⟩
          rw [← hR] at hx
          clear hR
          have HX := Lib.hid hx
          obtain ⟨b, off, so2, sc2, u2, rfl, _, c0, c1, hAR⟩ := (HVA.out.grow HB.out).at hx
          obtain ⟨W8, hW8⟩ : ∃ W8, W8 = wr.alloc (.cells #[.slice so2 R.1.length sc2, u2] 31) := ⟨_, rfl⟩
          have HA8 := Lib.hid (show At2 W8 wr.heap.size _ _ by rw [hW8]; exact At2.new _ (.slice so2 R.1.length sc2) u2 _)
          have HN8 := Lib.hid (show Below wr.heap.size wr W8 by rw [hW8]; exact below_new _ _)
          have hsx2 := hAR.2.store
          have HQ := Lib.hid (HIH.out _ R _ _ W8 (by omega) (HBX.out R (List.mem_of_getElem? hx)) (hAR.grow HN8.out))
          obtain ⟨n, hn⟩ : ∃ n, n = depA d R := ⟨_, rfl⟩
          rw [← hn] at HQ
          have hnb := depA_bd d R
          rw [← hn] at hnb
          obtain ⟨hn0, hn1⟩ := hnb
          have HT := Lib.hid (show max q n = mx ((V.boxs.take (k + 1)).map (depA d)) by rw [mx_take HX.out, ← HQQ.out, ← hn])
          obtain ⟨_, a0, a1, _⟩ := HA8.out
          have hfold := hW8.symm
          clear hx hAR hW8 hn
          go_wp2_with fail
          refine HQ.out.mono ?_
          rintro e w9 ⟨rfl, hB⟩
          have HB9 := Lib.hid (HB.out.trans ((HN8.out.trans (hB.mono HN8.out.size)).mono HB.out.size))
          clear hB a0 a1 hfold c0 c1
          have HM0 := Lib.hid (show 0 ≤ max q n ∧ max q n ≤ d by omega)
          go_wp2_with fail
          go_roundw
          case rel => exact ⟨k + 1, max q n, by omega, by go_num, by congr 1; split <;> omega, HT.out, HM0.out.1, HM0.out.2, HB9.out⟩
          case measure => simp [intOf]; omega
        · have hkl : k = V.boxs.length := by omega
          have HM2 := Lib.hid (show 1 + q = depA (d + 1) (s, V) by rw [HD.out, HQQ.out, hkl, List.take_length])
          clear hkl
          go_wp2_with fail
          go_ret
          exact IntIs.mk HM2.out HBr.out
    · have hne : (V.cls != 2) = true := by simpa using hc
      have HD := Lib.hid (show depA (d + 1) (s, V) = if 0 < s.length then 1 else 0 by simp only [depA]; rw [if_neg hc])
      clear hc
      by_cases h0 : 0 < s.length
      all_goals
        first | rw [if_pos h0] at HD | rw [if_neg h0] at HD
        go_enter Tryd.func14, Tryd.ntmps14
        go_wp2_with fail
        refine (class_calls _ _ _ HV.out).mono ?_
        rintro e w2 ⟨rfl, hB⟩
        have HA2 := Lib.hid (HA.out.below hB)
        have HB2 := Lib.hid (HB1.out.trans (hB.mono HB1.out.size))
        have HAR2 := Lib.hid ((HARR.out.grow HB1.out).grow hB)
        clear a0 a1 hfold hB
        obtain ⟨_, a0, a1, _⟩ := HA2.out
        go_wp2_with fail
        refine (vrank_calls (s, V) _ _ _ HAR2.out).mono ?_
        rintro e w3 ⟨rfl, hB⟩
        have HB3 := Lib.hid (HB2.out.trans (hB.mono HB2.out.size))
        clear hB a0 a1
        go_wp2_with fail
        all_goals
          go_ret
          exact IntIs.mk (by have := HD.out; omega) HB3.out
end Go.Proofs.YtkgjemglmgdanaaDoor

/- Layer 16, walked: Cells, Less. -/
import Derived.Test.YtbdbpamefkgelaaGreatDoorOrA
namespace Go.Proofs.YtbdbpamefkgelaaGreatDoor
set_option maxRecDepth 100000
open Go.RowKit Fl
set_option linter.unusedVariables false

theorem ocompare_at {okA okB : Nat → Prop} (uA uB : Value) (A B : VV) (i k : Nat) (x y : Int) (w : World) (hA : IsV w okA uA A) (hB' : IsV w okB uB B) (fA : ∀ x ∈ A.nums, Fnt x) (fB : ∀ x ∈ B.nums, Fnt x) (hx : x = (i : Int)) (hy : y = (k : Int)) (hi : i < A.len) (hk : k < B.len) :
    Calls Tryz.prog 105 #[.agg #[uA], .int .i64 x, .agg #[uB], .int .i64 y] w fun e w' => e = .returned (.tuple #[.int .i64 (orC A i B k), .bool (orB A B)]) ∧ Below w.heap.size w w' := by
  subst hx hy
  exact ocompare_calls uA uB A B i k w hA hB' fA fB hi hk
theorem orB_self {A : VV} (h : A.cls < 2) : orB A A = true := decide_eq_true ⟨rfl, h⟩
theorem orC_self {A : VV} (h : A.cls < 2) (i k : Nat) : orC A i A k = cmpI (keyV A i) (keyV A k) := by unfold orC; rw [orB_self h]; rfl
/-- Cell i lies within n elements. -/
theorem cell_in {n size i : Nat} (h : i < n / size) : i * size + size ≤ n := by
  have h1 : (i + 1) * size ≤ n / size * size := Nat.mul_le_mul_right _ h
  have h2 := Nat.div_mul_le_self n size
  rw [Nat.add_mul, Nat.one_mul] at h1
  omega
theorem cmpK_lt {K : Nat → Int} {size i k j : Nat} (hj : j < size) (h : ∀ m, m < j → K (i * size + m) = K (k * size + m)) (hl : K (i * size + j) < K (k * size + j)) : cmpK K size i k = -1 := by
  unfold cmpK
  rw [lexI_hit (celK_get hj) (celK_get hj) (fun m hm => by rw [celK_get (by omega), celK_get (by omega), h m hm]), if_pos hl]
theorem cmpK_gt {K : Nat → Int} {size i k j : Nat} (hj : j < size) (h : ∀ m, m < j → K (i * size + m) = K (k * size + m)) (hl : K (k * size + j) < K (i * size + j)) : cmpK K size i k = 1 := by
  unfold cmpK
  rw [lexI_hit (celK_get hj) (celK_get hj) (fun m hm => by rw [celK_get (by omega), celK_get (by omega), h m hm]), if_neg (by omega), if_pos hl]
theorem cmpK_eq {K : Nat → Int} {size i k : Nat} (h : ∀ m, m < size → K (i * size + m) = K (k * size + m)) : cmpK K size i k = 0 := by
  unfold cmpK
  exact lexI_all (by rw [celK_len, celK_len]) (fun m hm => by rw [celK_len] at hm; rw [celK_get hm, celK_get hm, h m hm])
set_option maxHeartbeats 8000000 in
theorem ocells_calls {ok : Nat → Prop} (u : Value) (A : VV) (size i k : Nat) (w : World) (h : IsV w ok u A) (fA : ∀ x ∈ A.nums, Fnt x) (hc : A.cls < 2) (hs : 0 < size) (hm : A.len ≤ 1048576) (hi : i < A.len / size) (hk : k < A.len / size) :
    Calls Tryz.prog 75 #[.agg #[u], .int .i64 (size : Int), .int .i64 (i : Int), .int .i64 (k : Int)] w fun e w' => e = .returned (.int .i64 (cmpK (keyV A) size i k)) ∧ Below w.heap.size w w' := by
  have hsu := h.store
  have hin := cell_in hi
  have hkn := cell_in hk
  have hsm : size ≤ 1048576 := by omega
  have hQm : A.len / size ≤ A.len := Nat.div_le_self _ _
  obtain ⟨K, hK⟩ : ∃ K, keyV A = K := ⟨_, rfl⟩
  have HK := Lib.hid hK
  rw [hK]
  obtain ⟨R, hR⟩ : ∃ R, cmpK K size i k = R := ⟨_, rfl⟩
  have HR := Lib.hid hR
  rw [hR]
  obtain ⟨P, hP⟩ : ∃ P, i * size = P := ⟨_, rfl⟩
  obtain ⟨S, hS⟩ : ∃ S, k * size = S := ⟨_, rfl⟩
  rw [hP] at hin
  rw [hS] at hkn
  have HP := Lib.hid hP
  have HS := Lib.hid hS
  have HIN := Lib.hid (And.intro hin hkn)
  have HFA := Lib.hid fA
  have HC := Lib.hid hc
  have HM := Lib.hid hm
  have HPOS := Lib.hid hs
  obtain ⟨W1, hW1⟩ : ∃ W1, W1 = w.alloc (.cells #[u] 36) := ⟨_, rfl⟩
  have HB := Lib.hid (show Below w.heap.size w W1 by rw [hW1]; exact below_new _ _)
  have HA := Lib.hid (show At1 W1 w.heap.size u by rw [hW1]; exact At1.new w _ _)
  have HU := Lib.hid (show IsV W1 ok u A from h.grow HB.out)
  obtain ⟨Q, hQ⟩ : ∃ Q, A.len / size = Q := ⟨_, rfl⟩
  rw [hQ] at hi hk hQm
  have HQ := Lib.hid hQ
  have HI := Lib.hid hi
  have HKQ := Lib.hid hk
  have q1 : IntKind.i64.wrap ((i : Int) * (size : Int)) = (P : Int) := by rw [← Int.natCast_mul, hP]; exact IntWalk.i64_in _ (by omega)
  have q2 : IntKind.i64.wrap ((k : Int) * (size : Int)) = (S : Int) := by rw [← Int.natCast_mul, hS]; exact IntWalk.i64_in _ (by omega)
  have hPm : P + size ≤ 1048576 := by omega
  have hSm : S + size ≤ 1048576 := by omega
  have hfold := hW1.symm
  clear h hW1 fA hc hm hi hk hin hkn hK hR hP hS hQ hQm
  have cHA0 := HA.out.2.1
  go_enter Tryz.func75, Tryz.ntmps75
  go_wp2_with fail
  clear hfold
  refine (ocount_calls _ A size _ HU.out HPOS.out (by omega) HM.out).mono ?_
  rintro e W11 ⟨rfl, hB⟩
  clear cHA0
  replace HA := Lib.hid (HA.out.below hB)
  replace HB := Lib.hid (HB.out.trans (hB.mono HB.out.size))
  replace HU := Lib.hid (HU.out.grow hB)
  rw [HQ.out]
  clear hB
  have cHA0 := HA.out.2.1
  go_wp2_with fail
  refine (oex_yes _ HI.out).mono ?_
  rintro e w9 ⟨rfl, rfl⟩
  go_wp2_with fail
  refine (oex_yes _ HKQ.out).mono ?_
  rintro e w9 ⟨rfl, rfl⟩
  have HW := Lib.hid (Below.refl W11.heap.size W11)
  obtain ⟨W0, hW0⟩ : ∃ W0, W0 = W11 := ⟨_, rfl⟩
  rw [← hW0] at HA HB HU HW cHA0 ⊢
  clear hW0
  go_wp2_with fail
  go_loopw [27] (fun jv wr => ∃ j : Nat, j ≤ size ∧ jv = .int .i64 j ∧ (∀ m, m < j → K (P + m) = K (S + m)) ∧ Below W0.heap.size W0 wr) (fun jv _ => size - (intOf jv).toNat)
  case atStart => exact ⟨0, by omega, rfl, fun m hm => absurd hm (Nat.not_lt_zero _), HW.out⟩
  case round =>
    obtain ⟨j, hj, rfl, heq, hBr⟩ := hrel
    have HE := Lib.hid heq
    clear heq
    clear cHA0
    replace HA := Lib.hid (HA.out.below hBr)
    replace HU := Lib.hid (HU.out.grow hBr)
    replace HB := Lib.hid (HB.out.trans (hBr.mono HB.out.size))
    replace HW := Lib.hid hBr
    clear hBr
    by_cases hlt : j < size
    · have HIJ := Lib.hid (show P + j < A.len ∧ S + j < A.len by have := HIN.out; omega)
      have HLT := Lib.hid hlt
      have HC1 := Lib.hid (orC_self HC.out (P + j) (S + j))
      rw [HK.out] at HC1
      rcases Int.lt_trichotomy (K (P + j)) (K (S + j)) with hv | hv | hv
      · have HV := Lib.hid (HC1.out.trans (cmpI_lt hv))
        have HKV := Lib.hid hv
        clear hv
        have cHA0 := HA.out.2.1
        go_wp2_with fail
        refine (ocompare_at _ _ A A (P + j) (S + j) _ _ _ HU.out HU.out HFA.out HFA.out (by omega) (by omega) HIJ.out.1 HIJ.out.2).mono ?_
        rintro e W12 ⟨rfl, hB⟩
        clear cHA0
        replace HA := Lib.hid (HA.out.below hB)
        replace HB := Lib.hid (HB.out.trans (hB.mono HB.out.size))
        replace HU := Lib.hid (HU.out.grow hB)
        replace HW := Lib.hid (HW.out.trans (hB.mono HW.out.size))
        rw [HV.out]
        clear hB
        have cHA0 := HA.out.2.1
        go_wp2_with fail
        have HRV : R = -1 := by rw [← HR.out]; exact cmpK_lt (j := j) HLT.out (fun m hm => by rw [HP.out, HS.out]; exact HE.out m hm) (by rw [HP.out, HS.out]; exact HKV.out)
        go_ret
        exact ⟨by rw [HRV]; rfl, HB.out⟩
      · have HV := Lib.hid (HC1.out.trans (cmpI_eq hv))
        have HKV := Lib.hid hv
        clear hv
        have cHA0 := HA.out.2.1
        go_wp2_with fail
        refine (ocompare_at _ _ A A (P + j) (S + j) _ _ _ HU.out HU.out HFA.out HFA.out (by omega) (by omega) HIJ.out.1 HIJ.out.2).mono ?_
        rintro e W12 ⟨rfl, hB⟩
        clear cHA0
        replace HA := Lib.hid (HA.out.below hB)
        replace HB := Lib.hid (HB.out.trans (hB.mono HB.out.size))
        replace HU := Lib.hid (HU.out.grow hB)
        replace HW := Lib.hid (HW.out.trans (hB.mono HW.out.size))
        rw [HV.out]
        clear hB
        have cHA0 := HA.out.2.1
        go_wp2_with fail
        go_roundw
        case rel => exact ⟨j + 1, by omega, by go_num, fun m hm => by
          by_cases hmj : m < j
          · exact HE.out m hmj
          · rw [show m = j by omega]; exact HKV.out, HW.out⟩
        case measure => simp [intOf]; omega
      · have HV := Lib.hid (HC1.out.trans (cmpI_gt hv))
        have HKV := Lib.hid hv
        clear hv
        have cHA0 := HA.out.2.1
        go_wp2_with fail
        refine (ocompare_at _ _ A A (P + j) (S + j) _ _ _ HU.out HU.out HFA.out HFA.out (by omega) (by omega) HIJ.out.1 HIJ.out.2).mono ?_
        rintro e W12 ⟨rfl, hB⟩
        clear cHA0
        replace HA := Lib.hid (HA.out.below hB)
        replace HB := Lib.hid (HB.out.trans (hB.mono HB.out.size))
        replace HU := Lib.hid (HU.out.grow hB)
        replace HW := Lib.hid (HW.out.trans (hB.mono HW.out.size))
        rw [HV.out]
        clear hB
        have cHA0 := HA.out.2.1
        go_wp2_with fail
        have HRV : R = 1 := by rw [← HR.out]; exact cmpK_gt (j := j) HLT.out (fun m hm => by rw [HP.out, HS.out]; exact HE.out m hm) (by rw [HP.out, HS.out]; exact HKV.out)
        go_ret
        exact ⟨by rw [HRV]; rfl, HB.out⟩
    · have HRV := Lib.hid (show R = 0 by rw [← HR.out]; exact cmpK_eq (fun m hm => by rw [HP.out, HS.out]; exact HE.out m (by omega)))
      have cHA0 := HA.out.2.1
      go_wp2_with fail
      go_ret
      exact ⟨by rw [HRV.out]; rfl, HB.out⟩

theorem ocells_at {ok : Nat → Prop} (u : Value) (A : VV) (size i k : Nat) (x y z : Int) (w : World) (h : IsV w ok u A) (fA : ∀ x ∈ A.nums, Fnt x) (hc : A.cls < 2) (hs : 0 < size) (hm : A.len ≤ 1048576) (hz : z = (size : Int)) (hx : x = (i : Int)) (hy : y = (k : Int)) (hi : i < A.len / size) (hk : k < A.len / size) :
    Calls Tryz.prog 75 #[.agg #[u], .int .i64 z, .int .i64 x, .int .i64 y] w fun e w' => e = .returned (.int .i64 (cmpK (keyV A) size i k)) ∧ Below w.heap.size w w' := by
  subst hz hx hy
  exact ocells_calls u A size i k w h fA hc hs hm hi hk
set_option maxHeartbeats 4000000 in
theorem oless_calls {ok : Nat → Prop} (u : Value) (A : VV) (size i k : Nat) (down : Bool) (w : World) (h : IsV w ok u A) (fA : ∀ x ∈ A.nums, Fnt x) (hc : A.cls < 2) (hs : 0 < size) (hm : A.len ≤ 1048576) (hi : i < A.len / size) (hk : k < A.len / size) :
    Calls Tryz.prog 39 #[.agg #[u], .int .i64 (size : Int), .int .i64 (i : Int), .int .i64 (k : Int), .bool down] w fun e w' => e = .returned (.bool (lesK (keyV A) size down i k)) ∧ Below w.heap.size w w' := by
  have hsu := h.store
  have HFA := Lib.hid fA
  have HC := Lib.hid hc
  have HM := Lib.hid hm
  have HPOS := Lib.hid hs
  have HI := Lib.hid hi
  have HK := Lib.hid hk
  obtain ⟨W1, hW1⟩ : ∃ W1, W1 = w.alloc (.cells #[u] 36) := ⟨_, rfl⟩
  have HB := Lib.hid (show Below w.heap.size w W1 by rw [hW1]; exact below_new _ _)
  have HA := Lib.hid (show At1 W1 w.heap.size u by rw [hW1]; exact At1.new w _ _)
  have HU := Lib.hid (show IsV W1 ok u A from h.grow HB.out)
  obtain ⟨C, hC⟩ : ∃ C, cmpK (keyV A) size i k = C := ⟨_, rfl⟩
  have HCC := Lib.hid hC
  have HC3 := Lib.hid (show C = -1 ∨ C = 0 ∨ C = 1 by rw [← hC]; exact lexI_cases _ _)
  have HL := Lib.hid (show lesK (keyV A) size down i k = decide ((if down = true then -C else C) < 0 ∨ (if down = true then -C else C) = 0 ∧ i < k) by unfold lesK; rw [hC])
  obtain ⟨L, hL⟩ : ∃ L, lesK (keyV A) size down i k = L := ⟨_, rfl⟩
  rw [hL] at HL ⊢
  have hfold := hW1.symm
  clear h hW1 fA hc hm hi hk hs hC hL
  have cHA0 := HA.out.2.1
  go_enter Tryz.func39, Tryz.ntmps39
  go_wp2_with fail
  clear hfold
  refine (ocells_calls _ A size i k _ HU.out HFA.out HC.out HPOS.out HM.out HI.out HK.out).mono ?_
  rintro e W11 ⟨rfl, hB⟩
  clear cHA0
  replace HA := Lib.hid (HA.out.below hB)
  replace HB := Lib.hid (HB.out.trans (hB.mono HB.out.size))
  replace HU := Lib.hid (HU.out.grow hB)
  rw [HCC.out]
  clear hB
  rcases HC3.out with rfl | rfl | rfl
  · cases down
    · go_wp2_with fail
      go_ret
      exact ⟨by rw [HL.out]; rfl, HB.out⟩
    · go_wp2_with fail
      go_ret
      exact ⟨by rw [HL.out]; rfl, HB.out⟩
  · have hz := Lib.hid (show L = decide (i < k) by rw [HL.out]; cases down <;> simp)
    go_wp2_with fail
    go_ret
    exact ⟨by rw [hz.out]; rfl, HB.out⟩
  · cases down
    · go_wp2_with fail
      go_ret
      exact ⟨by rw [HL.out]; rfl, HB.out⟩
    · go_wp2_with fail
      go_ret
      exact ⟨by rw [HL.out]; rfl, HB.out⟩
end Go.Proofs.YtbdbpamefkgelaaGreatDoor

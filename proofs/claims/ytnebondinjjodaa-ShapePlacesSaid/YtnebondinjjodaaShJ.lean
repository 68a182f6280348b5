/- ShapePlaces, walked. -/
import Derived.Test.YtnebondinjjodaaShI
namespace Go.Proofs.Ytnebondinjjodaa
open Go.RowKit
set_option linter.unusedVariables false
set_option maxRecDepth 8000

theorem prod400 {s : List Int} {n : Int} (h : prodR s 400 = (n, 0)) : prodR s 1048576 = (n, 0) ∧ n ≤ 400 ∧ 0 ≤ n := by
  unfold prodR at h ⊢
  by_cases h1 : 8 < s.length
  · rw [if_pos h1] at h; cases h
  rw [if_neg h1] at h ⊢
  by_cases h2 : anyN s = true
  · rw [if_pos h2] at h; cases h
  rw [if_neg h2] at h ⊢
  by_cases h3 : 1048576 < nzp s
  · rw [if_pos h3] at h; cases h
  rw [if_neg h3] at h ⊢
  obtain ⟨q, hq⟩ : ∃ q, (if anyZ s = true then 0 else nzp s) = q := ⟨_, rfl⟩
  rw [hq] at h ⊢
  have hq0 : 0 ≤ q := by rw [← hq]; have := nzp_pos s; split <;> omega
  by_cases h4 : 400 < q
  · rw [if_pos h4] at h; cases h
  rw [if_neg h4] at h
  rw [if_neg (by omega)]
  have e : q = n := congrArg Prod.fst h
  exact ⟨by rw [e], by omega, by omega⟩
/-- The list of all indexes that the reference makes, of at most 400. -/
theorem all400 {s : List Int} {n : Int} (h : prodR s 400 = (n, 0)) : (allM s 500).length = n.toNat ∧ ∀ i (hi : i < (allM s 500).length), (allM s 500)[i] = unp s (i : Int) ∧ 0 < n := by
  obtain ⟨h1, h2, h3⟩ := prod400 h
  obtain ⟨hz1, hn, e⟩ := ok_prod h1 rfl
  cases hz : anyZ s with
  | true =>
    have hx : ∃ x ∈ s, x ≤ 0 := by
      obtain ⟨x, hx, h0⟩ := List.any_eq_true.1 hz
      exact ⟨x, hx, by simp at h0; omega⟩
    rw [hz] at e
    simp at e
    rw [allM_zero s 500 hx]
    exact ⟨by rw [e]; rfl, fun i hi => absurd hi (by simp)⟩
  | false =>
    rw [hz] at e
    have en : n = nzp s := by simpa using e
    have hnp := nzp_pos s
    obtain ⟨hp, _⟩ := pos_of h1 rfl (i := 0) (Int.le_refl _) (by omega)
    have ea : allM s 500 = allL s := allM_pos s 500 (by decide) hp (by omega)
    rw [ea]
    refine ⟨by rw [allL_len hp, en], fun i hi => ⟨?_, by omega⟩⟩
    rw [allL_len hp] at hi
    have := allL_eq s hp
    simp only [this]
    simp
/-- What a place's indexes tell. -/
theorem more_unp {s : List Int} {n i : Int} (h : prodR s 1048576 = (n, 0)) (h0 : 0 ≤ i) (h1 : i < n) :
    placeR s (unp s i) = i ∧ hasG s i = true ∧ moreG s (unp s i) = decide (i + 1 < n) := by
  have hp := place_unp h rfl h0 h1
  have hg : ∀ j : Int, hasG s j = decide (0 ≤ j ∧ j < n) := fun j => by unfold hasG goodS; rw [h]; rfl
  refine ⟨hp, by rw [hg, decide_eq_true ⟨h0, h1⟩], ?_⟩
  unfold moreG
  rw [hp, hg, decide_eq_true h0, Bool.true_and, decide_eq_decide]
  omega
theorem unp_nonneg : ∀ (s : List Int) (i : Int), 0 ≤ i → ∀ x ∈ unp s i, 0 ≤ x
  | [], i, h, x, hx => by simp [unp] at hx
  | _ :: s, i, h, x, hx => by
    have hn := nzp_pos s
    rw [unp] at hx
    rcases List.mem_cons.1 hx with rfl | hx
    · exact Int.ediv_nonneg h (by omega)
    · exact unp_nonneg s _ (Int.emod_nonneg _ (by omega)) x hx
theorem strd_pos : ∀ (s : List Int), ∀ x ∈ strd s, 0 ≤ x
  | [], x, hx => by simp [strd] at hx
  | _ :: s, x, hx => by
    rw [strd] at hx
    rcases List.mem_cons.1 hx with rfl | hx
    · have := nzp_pos s; omega
    · exact strd_pos s x hx
theorem getD_nonneg {l : List Int} (h : ∀ x ∈ l, 0 ≤ x) (k : Nat) : 0 ≤ l.getD k 0 := by
  by_cases hk : k < l.length
  · rw [List.getD_eq_getElem?_getD, List.getElem?_eq_getElem hk]; exact h _ (List.getElem_mem hk)
  · rw [List.getD_eq_getElem?_getD, List.getElem?_eq_none (by omega)]; exact Int.le_refl _
theorem dot_up {a b : List Int} (ha : ∀ x ∈ a, 0 ≤ x) (hb : ∀ x ∈ b, 0 ≤ x) (k : Nat) : ∀ d, dotTo a b k ≤ dotTo a b (k + d)
  | 0 => Int.le_refl _
  | d + 1 => by
    have h1 := dot_up ha hb k d
    have h2 := Int.mul_nonneg (getD_nonneg ha (k + d)) (getD_nonneg hb (k + d))
    rw [show k + (d + 1) = (k + d) + 1 from rfl, dotTo]
    omega
/-- The partial sums of the distances' products. -/
theorem dot_part {s : List Int} {i : Int} (hi : 0 ≤ i) (h : plc s (unp s i) = some i) (k : Nat) (hk : k < s.length) :
    0 ≤ dotTo (strd s) (unp s i) k ∧ 0 ≤ (strd s).getD k 0 * (unp s i).getD k 0 ∧ dotTo (strd s) (unp s i) k + (strd s).getD k 0 * (unp s i).getD k 0 ≤ i := by
  have ha := strd_pos s
  have hb := unp_nonneg s i hi
  have h0 := dot_up ha hb 0 k
  rw [Nat.zero_add] at h0
  have h1 := dot_up ha hb (k + 1) (s.length - (k + 1))
  rw [show k + 1 + (s.length - (k + 1)) = s.length by omega, dot_plc s _ _ h, dotTo] at h1
  exact ⟨h0, Int.mul_nonneg (getD_nonneg ha k) (getD_nonneg hb k), h1⟩
set_option maxHeartbeats 8000000 in
theorem shPlaces_core (w : World) (v : Value) (s : List Int) (n : Int) (HS : Hid (Slc w (fun _ => True) v s.length (ints s))) (hl : s.length ≤ 60) (HP4 : Hid (prodR s 400 = (n, 0))) :
    Calls Try.prog 4 #[v] w fun e w' => e = .returned (.bool true) ∧ Below w.heap.size w w' := by
  have HB := Lib.hid (Below.refl w.heap.size w)
  have HL := Lib.hid (show s.length ≤ 1000 by omega)
  have HL3 := Lib.hid (show s.length ≤ 9223372036854775807 by omega)
  have HP := Lib.hid (prod400 HP4.out)
  have HGD := Lib.hid (show goodS s = true by unfold goodS; rw [HP.out.1]; rfl)
  have HST := Lib.hid (show strG s = strd s by unfold strG; rw [HGD.out]; rfl)
  have HSTL := Lib.hid (strd_len s)
  obtain ⟨D, hD⟩ : ∃ D, strd s = D := ⟨_, rfl⟩
  rw [hD] at HST HSTL
  have HD := Lib.hid hD
  obtain ⟨N, hN⟩ : ∃ N, n.toNat = N := ⟨_, rfl⟩
  have HN := Lib.hid (show n = (N : Int) by have := HP.out.2.2; omega)
  have hN4 : N ≤ 400 := by have := HP.out.2.1; omega
  obtain ⟨A, hA⟩ : ∃ A, allM s 500 = A := ⟨_, rfl⟩
  have HAL := Lib.hid (show A.length = N by rw [← hA, (all400 HP4.out).1, hN])
  have HAE := Lib.hid (show ∀ i (hi : i < A.length), A[i] = unp s (i : Int) ∧ 0 < n by subst hA; exact (all400 HP4.out).2)
  have HAM := Lib.hid hA
  clear hD hN hA
  have hne0 : ((0 : Int) != 0) = false := rfl
  obtain ⟨ao, cap, rfl, _⟩ := HS.out.opened
  go_enter Try.func4, Try.ntmps4
  go_wp2_with fail
  refine (Calls.grow_same6 (rproduct_calls _ s 400 _ HS.out HL3.out)).mono ?_
  rintro e W1 ⟨rfl, hB⟩
  replace HS := Lib.hid (HS.out.below hB)
  replace HB := Lib.hid (HB.out.trans (hB.mono HB.out.size))
  rw [HP4.out, HN.out]
  clear hB
  go_wp2_with fail
  refine (rall_calls _ s 500 _ HS.out hl (by decide)).mono ?_
  rintro e W2 ⟨va, rfl, hs, hB⟩
  replace HS := Lib.hid (HS.out.below hB)
  replace HB := Lib.hid (HB.out.trans (hB.mono HB.out.size))
  rw [HAM.out] at hs
  have HA := Lib.hid hs
  obtain ⟨fa, hs0, hf0⟩ := hs
  have HA0 := Lib.hid (show Slc W2 (fun _ => True) va N ((List.range N).map fa) by rw [HAL.out] at hs0; exact hs0)
  have HAF := Lib.hid hf0
  obtain ⟨aoa, capa, rfl, _⟩ := HA0.out.opened
  clear hs0 hf0 hB
  go_wp2_with fail
  refine (sstrides_calls _ s _ HS.out HL.out).mono ?_
  rintro e W3 ⟨y, rfl, hs, hB⟩
  replace HS := Lib.hid (HS.out.below hB)
  replace HA0 := Lib.hid (HA0.out.below hB)
  replace HB := Lib.hid (HB.out.trans (hB.mono HB.out.size))
  have HB23 := Lib.hid hB
  have HY := Lib.hid (show Slc W3 _ y s.length (ints D) from by rw [HST.out, HSTL.out] at hs; exact hs)
  clear hs
  clear hB
  obtain ⟨aoy, capy, rfl, _⟩ := HY.out.opened
  have hN4' := hN4
  have hsl := hl
  go_wp2
  go_loopw [7] (fun iv wr => ∃ i : Nat, i ≤ N ∧ iv = .int .i64 i ∧ Below W3.heap.size W3 wr) (fun iv _ => N - (intOf iv).toNat)
  case atStart => exact ⟨0, by omega, rfl, Below.refl _ _⟩
  case round =>
    obtain ⟨i, hi, rfl, hBr⟩ := hrel
    have HBr := Lib.hid hBr
    have HSr := Lib.hid (HS.out.below hBr)
    by_cases hlt : i < N
    · obtain ⟨bb, off, cap', q, e1, hq, hcq⟩ := slc_at (α := Value) id (s := .slice aoa N capa) (l := (List.range N).map fa) (by simpa using HA0.out) i (by simpa using hlt)
      simp only [List.length_map, List.length_range] at e1
      obtain ⟨e1a, e1b⟩ : aoa = some ⟨bb, off, none⟩ ∧ capa = cap' := by cases e1; exact ⟨rfl, rfl⟩
      subst e1a
      have hfq : q = fa i := by
        rw [List.getElem?_map, List.getElem?_range hlt] at hq
        exact (Option.some.inj hq).symm
      have hiA : i < A.length := by rw [HAL.out]; exact hlt
      obtain ⟨hAi, hn0⟩ := HAE.out i hiA
      obtain ⟨U, hU⟩ : ∃ U, unp s (i : Int) = U := ⟨_, rfl⟩
      rw [hU] at hAi
      have hmu := more_unp HP.out.1 (show (0 : Int) ≤ (i : Int) by omega) (show (i : Int) < n by rw [HN.out]; omega)
      have hdp := dot_part (s := s) (i := (i : Int)) (by omega) (by have h5 := hmu.1; obtain ⟨hpp, e5⟩ := pos_of HP.out.1 rfl (show (0 : Int) ≤ (i : Int) by omega) (by rw [HN.out]; omega); exact plc_unp s _ hpp (by omega) (by rw [← e5, HN.out]; omega))
      rw [hU] at hmu hdp
      rw [HD.out] at hdp
      have HDP := Lib.hid hdp
      have HTOT := Lib.hid (show dotTo D U s.length = (i : Int) by rw [← HD.out, ← hU]; obtain ⟨hpp, e5⟩ := pos_of HP.out.1 rfl (show (0 : Int) ≤ (i : Int) by omega) (by rw [HN.out]; omega); exact dot_plc s _ _ (plc_unp s _ hpp (by omega) (by rw [← e5, HN.out]; omega)))
      have HU := Lib.hid hU
      have HUL := Lib.hid (show U.length = s.length by rw [← hU, unp_len])
      have HUk := Lib.hid (show U.length ≤ 1000 by rw [HUL.out]; omega)
      have HMU := Lib.hid hmu
      have HFq := Lib.hid (show Slc W2 (fun _ => True) q U.length (ints U) by have := HAF.out i hiA; rw [hAi, ← hfq] at this; exact this)
      have HFr := Lib.hid ((HFq.out.below HB23.out).below hBr)
      have HCQ := Lib.hid (show W3.cell? ⟨bb, off + i, none⟩ = some q from hcq)
      have HAT := Lib.hid (show atG s U = (i : Int) by unfold atG; rw [HMU.out.1, if_pos (by omega)])
      have HPL := Lib.hid (show decide (0 ≤ placeR s U) = true by rw [HMU.out.1]; exact decide_eq_true (by omega))
      have HIX := Lib.hid (show idxG s (i : Int) = U by unfold idxG; rw [HMU.out.2.1, if_pos rfl]; exact HU.out)
      obtain ⟨aoq, capq, rfl, _⟩ := HFq.out.opened
      have hcell := keep_below hBr _ _ HCQ.out
      have HCr := Lib.hid hcell
      replace HB := Lib.hid (HB.out.trans (HBr.out.mono HB.out.size))
      clear hcell hBr e1 e1b hq hcq hfq hAi hU hmu hdp hn0
      have HYr := Lib.hid (HY.out.below HBr.out)
      by_cases hm : i + 1 < N
      · obtain ⟨bb2, off2, cap2', q2, e1, hq, hcq⟩ := slc_at (α := Value) id (s := .slice (some ⟨bb, off, none⟩) N capa) (l := (List.range N).map fa) (by simpa using HA0.out) (i + 1) (by simpa using hm)
        simp only [List.length_map, List.length_range] at e1
        obtain ⟨e1a, e1b, e1c⟩ : bb = bb2 ∧ off = off2 ∧ capa = cap2' := by cases e1; exact ⟨rfl, rfl, rfl⟩
        subst e1a e1b
        have hfq : q2 = fa (i + 1) := by
          rw [List.getElem?_map, List.getElem?_range hm] at hq
          exact (Option.some.inj hq).symm
        have hiA2 : i + 1 < A.length := by rw [HAL.out]; exact hm
        have hAi := (HAE.out (i + 1) hiA2).1
        obtain ⟨U2, hU2⟩ : ∃ U, unp s ((i + 1 : Nat) : Int) = U := ⟨_, rfl⟩
        rw [hU2] at hAi
        have HFq2 := Lib.hid (show Slc W2 (fun _ => True) q2 U2.length (ints U2) by have := HAF.out (i + 1) hiA2; rw [hAi, ← hfq] at this; exact this)
        have HFr2 := Lib.hid ((HFq2.out.below HB23.out).below HBr.out)
        have HCr2 := Lib.hid (show wr.cell? ⟨bb, off + (i + 1), none⟩ = some q2 from keep_below HBr.out _ _ hcq)
        have HUL2 := Lib.hid (show U2.length ≤ maxLen by rw [← hU2, unp_len]; unfold maxLen; omega)
        have HMO := Lib.hid (show moreG s U = true by rw [HMU.out.2.2, HN.out]; exact decide_eq_true (by omega))
        have HNX := Lib.hid (show nextG s U = U2 by unfold nextG; rw [HMO.out, if_pos rfl, HMU.out.1, ← hU2]; congr 1)
        obtain ⟨aoq2, capq2, rfl, _⟩ := HFq2.out.opened
        clear e1 e1c hq hcq hfq hAi hU2
        have hmi : ((i : Int) + 1 < (N : Int)) := by omega
        have cHCr := HCr.out
        have cHCr2 := HCr2.out
        go_wp2_with fail
        refine (sat_calls _ _ s U _ HSr.out HL.out HFr.out HUk.out).mono ?_
        clear cHCr cHCr2
        rintro e W11 ⟨rfl, hB⟩
        replace HSr := Lib.hid (HSr.out.below hB)
        replace HFr := Lib.hid (HFr.out.below hB)
        replace HBr := Lib.hid (HBr.out.trans (hB.mono HBr.out.size))
        replace HYr := Lib.hid (HYr.out.below hB)
        replace HCr := Lib.hid (keep_below hB _ _ HCr.out)
        replace HFr2 := Lib.hid (HFr2.out.below hB)
        replace HCr2 := Lib.hid (keep_below hB _ _ HCr2.out)
        replace HB := Lib.hid (HB.out.trans (hB.mono HB.out.size))
        rw [HAT.out, HPL.out]
        clear hB
        have cHCr := HCr.out
        have cHCr2 := HCr2.out
        go_wp2_with fail
        refine (sindex_calls _ s (i : Int) _ HSr.out HL.out).mono ?_
        clear cHCr cHCr2
        rintro e W12 ⟨z, rfl, hs, hB⟩
        replace HSr := Lib.hid (HSr.out.below hB)
        replace HFr := Lib.hid (HFr.out.below hB)
        replace HBr := Lib.hid (HBr.out.trans (hB.mono HBr.out.size))
        replace HYr := Lib.hid (HYr.out.below hB)
        replace HCr := Lib.hid (keep_below hB _ _ HCr.out)
        replace HFr2 := Lib.hid (HFr2.out.below hB)
        replace HCr2 := Lib.hid (keep_below hB _ _ HCr2.out)
        replace HB := Lib.hid (HB.out.trans (hB.mono HB.out.size))
        rw [HMU.out.2.1]
        have HZ := Lib.hid (show Slc W12 _ z U.length (ints U) from by rw [HIX.out] at hs; exact hs)
        clear hs
        clear hB
        have cHCr := HCr.out
        have cHCr2 := HCr2.out
        obtain ⟨aoz, capz, rfl, _⟩ := HZ.out.opened
        go_wp2_with fail
        refine (snext_calls _ _ s U _ HSr.out HL.out HFr.out HUk.out).mono ?_
        clear cHCr cHCr2
        rintro e W13 ⟨y2, rfl, hs, hB⟩
        replace HSr := Lib.hid (HSr.out.below hB)
        replace HFr := Lib.hid (HFr.out.below hB)
        replace HBr := Lib.hid (HBr.out.trans (hB.mono HBr.out.size))
        replace HYr := Lib.hid (HYr.out.below hB)
        replace HCr := Lib.hid (keep_below hB _ _ HCr.out)
        replace HFr2 := Lib.hid (HFr2.out.below hB)
        replace HCr2 := Lib.hid (keep_below hB _ _ HCr2.out)
        replace HZ := Lib.hid (HZ.out.below hB)
        replace HB := Lib.hid (HB.out.trans (hB.mono HB.out.size))
        rw [HMO.out]
        have HNx := Lib.hid (show Slc W13 _ y2 U2.length (ints U2) from by rw [HNX.out] at hs; exact hs)
        clear hs
        clear hB
        have cHCr := HCr.out
        have cHCr2 := HCr2.out
        obtain ⟨aon, capn, rfl, _⟩ := HNx.out.opened
        go_wp2_with fail
        refine (ints_calls _ _ U U _ HZ.out.1.sl HFr.out.1.sl (by have := HUk.out; unfold maxLen; omega)).mono ?_
        clear cHCr cHCr2
        rintro e W14 ⟨rfl, hB⟩
        replace HSr := Lib.hid (HSr.out.below hB)
        replace HFr := Lib.hid (HFr.out.below hB)
        replace HBr := Lib.hid (HBr.out.trans (hB.mono HBr.out.size))
        replace HYr := Lib.hid (HYr.out.below hB)
        replace HCr := Lib.hid (keep_below hB _ _ HCr.out)
        replace HFr2 := Lib.hid (HFr2.out.below hB)
        replace HCr2 := Lib.hid (keep_below hB _ _ HCr2.out)
        replace HZ := Lib.hid (HZ.out.below hB)
        replace HNx := Lib.hid (HNx.out.below hB)
        replace HB := Lib.hid (HB.out.trans (hB.mono HB.out.size))
        rw [show (U == U) = true from beq_self_eq_true U]
        clear hB
        have cHCr := HCr.out
        have cHCr2 := HCr2.out
        go_wp2_with fail
        refine (ints_calls _ _ U2 U2 _ HNx.out.1.sl HFr2.out.1.sl HUL2.out).mono ?_
        clear cHCr cHCr2
        rintro e W15 ⟨rfl, hB⟩
        replace HSr := Lib.hid (HSr.out.below hB)
        replace HFr := Lib.hid (HFr.out.below hB)
        replace HBr := Lib.hid (HBr.out.trans (hB.mono HBr.out.size))
        replace HYr := Lib.hid (HYr.out.below hB)
        replace HCr := Lib.hid (keep_below hB _ _ HCr.out)
        replace HFr2 := Lib.hid (HFr2.out.below hB)
        replace HCr2 := Lib.hid (keep_below hB _ _ HCr2.out)
        replace HZ := Lib.hid (HZ.out.below hB)
        replace HNx := Lib.hid (HNx.out.below hB)
        replace HB := Lib.hid (HB.out.trans (hB.mono HB.out.size))
        rw [show (U2 == U2) = true from beq_self_eq_true U2]
        clear hB
        have cHCr := HCr.out
        have cHCr2 := HCr2.out
        clear cHCr cHCr2
        have HFz := Lib.hid (show Slc W15 (fun _ => True) (.slice aoq U.length capq) U.length (U.map (Value.int .i64)) from HFr.out)
        have HYz := Lib.hid (show Slc W15 _ (.slice aoy s.length capy) D.length (D.map (Value.int .i64)) by have := HYr.out; rw [HSTL.out]; exact this)
        have cHCr := HCr.out
        have hii : (i : Int) < 1000 := by omega
        go_wp2
        go_loopw [14, 15] (fun sv kv w2 => ∃ kk : Nat, kk ≤ s.length ∧ kv = .int .i64 kk ∧ sv = .int .i64 (dotTo D U kk) ∧ Below W15.heap.size W15 w2) (fun _ kv _ => s.length - (intOf kv).toNat)
        case atStart => exact ⟨0, by omega, rfl, rfl, Below.refl _ _⟩
        case round =>
          obtain ⟨kk, hkk, rfl, rfl, hBs⟩ := hrel
          have HBs := Lib.hid hBs
          have cHCs := keep_below hBs _ _ HCr.out
          clear cHCr
          by_cases hkl : kk < s.length
          · obtain ⟨b3, o3, c3, x3, e3, hx3, hc3⟩ := slc_at (Value.int .i64) HFz.out kk (by rw [HUL.out]; exact hkl)
            obtain ⟨e3a, e3b⟩ : aoq = some ⟨b3, o3, none⟩ ∧ capq = c3 := by cases e3; exact ⟨rfl, rfl⟩
            subst e3a
            obtain ⟨b4, o4, c4, x4, e4, hx4, hc4⟩ := slc_at (s := .slice aoy D.length capy) (Value.int .i64) (by have := HYz.out; rw [← HSTL.out] at this; exact this) kk (by rw [HSTL.out]; exact hkl)
            obtain ⟨e4a, e4b⟩ : aoy = some ⟨b4, o4, none⟩ ∧ capy = c4 := by cases e4; exact ⟨rfl, rfl⟩
            subst e4a
            have g3 : U.getD kk 0 = x3 := by rw [List.getD_eq_getElem?_getD, hx3]; rfl
            have g4 : D.getD kk 0 = x4 := by rw [List.getD_eq_getElem?_getD, hx4]; rfl
            obtain ⟨d1, d2, d3⟩ := HDP.out kk hkl
            rw [g3, g4] at d2 d3
            have HDS := Lib.hid (show dotTo D U (kk + 1) = dotTo D U kk + x4 * x3 by rw [dotTo, g3, g4])
            obtain ⟨S0, hS0⟩ : ∃ S0, dotTo D U kk = S0 := ⟨_, rfl⟩
            rw [hS0] at d1 d3 HDS ⊢
            obtain ⟨M0, hM0⟩ : ∃ M0, x4 * x3 = M0 := ⟨_, rfl⟩
            rw [hM0] at d2 d3 HDS
            have q1 : IntKind.i64.wrap (x4 * x3) = M0 := by rw [hM0]; exact IntWalk.i64_in _ (by omega)
            have q2 : IntKind.i64.wrap (S0 + M0) = S0 + M0 := IntWalk.i64_in _ (by omega)
            have hkU : kk < U.length := by rw [HUL.out]; exact hkl
            have hc3s := keep_below hBs _ _ hc3
            have hc4s := keep_below hBs _ _ hc4
            clear e3 e4 hx3 hx4 g3 g4 hS0 hM0 hBs hc3 hc4
            go_wp2
            go_region
            all_goals
              go_wp2
              go_roundw
              case rel => exact ⟨kk + 1, by omega, by go_num, by rw [HDS.out], Below.drewN' HBs.out 1⟩
              case measure => simp [intOf]; omega
          · have hke : kk = s.length := by omega
            have HSUM := Lib.hid (show dotTo D U kk = (i : Int) by rw [hke]; exact HTOT.out)
            rw [HSUM.out]
            clear hke hBs
            go_wp2
            go_roundw
            case rel => exact ⟨i + 1, by omega, by go_num, HBr.out.trans (HBs.out.mono HBr.out.size)⟩
            case measure => simp [intOf]; omega
      · have HMO := Lib.hid (show moreG s U = false by rw [HMU.out.2.2, HN.out]; exact decide_eq_false (by omega))
        have HNX := Lib.hid (show nextG s U = [] by unfold nextG; rw [HMO.out]; rfl)
        have hmi : ¬ ((i : Int) + 1 < (N : Int)) := by omega
        have cHCr := HCr.out
        go_wp2_with fail
        refine (sat_calls _ _ s U _ HSr.out HL.out HFr.out HUk.out).mono ?_
        clear cHCr
        rintro e W11 ⟨rfl, hB⟩
        replace HSr := Lib.hid (HSr.out.below hB)
        replace HFr := Lib.hid (HFr.out.below hB)
        replace HBr := Lib.hid (HBr.out.trans (hB.mono HBr.out.size))
        replace HYr := Lib.hid (HYr.out.below hB)
        replace HCr := Lib.hid (keep_below hB _ _ HCr.out)
        replace HB := Lib.hid (HB.out.trans (hB.mono HB.out.size))
        rw [HAT.out, HPL.out]
        clear hB
        have cHCr := HCr.out
        go_wp2_with fail
        refine (sindex_calls _ s (i : Int) _ HSr.out HL.out).mono ?_
        clear cHCr
        rintro e W12 ⟨z, rfl, hs, hB⟩
        replace HSr := Lib.hid (HSr.out.below hB)
        replace HFr := Lib.hid (HFr.out.below hB)
        replace HBr := Lib.hid (HBr.out.trans (hB.mono HBr.out.size))
        replace HYr := Lib.hid (HYr.out.below hB)
        replace HCr := Lib.hid (keep_below hB _ _ HCr.out)
        replace HB := Lib.hid (HB.out.trans (hB.mono HB.out.size))
        rw [HMU.out.2.1]
        have HZ := Lib.hid (show Slc W12 _ z U.length (ints U) from by rw [HIX.out] at hs; exact hs)
        clear hs
        clear hB
        have cHCr := HCr.out
        obtain ⟨aoz, capz, rfl, _⟩ := HZ.out.opened
        go_wp2_with fail
        refine (snext_calls _ _ s U _ HSr.out HL.out HFr.out HUk.out).mono ?_
        clear cHCr
        rintro e W13 ⟨y2, rfl, hs, hB⟩
        replace HSr := Lib.hid (HSr.out.below hB)
        replace HFr := Lib.hid (HFr.out.below hB)
        replace HBr := Lib.hid (HBr.out.trans (hB.mono HBr.out.size))
        replace HYr := Lib.hid (HYr.out.below hB)
        replace HCr := Lib.hid (keep_below hB _ _ HCr.out)
        replace HZ := Lib.hid (HZ.out.below hB)
        replace HB := Lib.hid (HB.out.trans (hB.mono HB.out.size))
        rw [HMO.out]
        have HNx := Lib.hid (show Slc W13 _ y2 ([] : List Int).length (ints ([] : List Int)) from by rw [HNX.out] at hs; exact hs)
        clear hs
        clear hB
        have cHCr := HCr.out
        obtain ⟨aon, capn, rfl, _⟩ := HNx.out.opened
        go_wp2_with fail
        refine (ints_calls _ _ U U _ HZ.out.1.sl HFr.out.1.sl (by have := HUk.out; unfold maxLen; omega)).mono ?_
        clear cHCr
        rintro e W14 ⟨rfl, hB⟩
        replace HSr := Lib.hid (HSr.out.below hB)
        replace HFr := Lib.hid (HFr.out.below hB)
        replace HBr := Lib.hid (HBr.out.trans (hB.mono HBr.out.size))
        replace HYr := Lib.hid (HYr.out.below hB)
        replace HCr := Lib.hid (keep_below hB _ _ HCr.out)
        replace HZ := Lib.hid (HZ.out.below hB)
        replace HNx := Lib.hid (HNx.out.below hB)
        replace HB := Lib.hid (HB.out.trans (hB.mono HB.out.size))
        rw [show (U == U) = true from beq_self_eq_true U]
        clear hB
        have cHCr := HCr.out
        clear cHCr
        have HFz := Lib.hid (show Slc W14 (fun _ => True) (.slice aoq U.length capq) U.length (U.map (Value.int .i64)) from HFr.out)
        have HYz := Lib.hid (show Slc W14 _ (.slice aoy s.length capy) D.length (D.map (Value.int .i64)) by have := HYr.out; rw [HSTL.out]; exact this)
        have cHCr := HCr.out
        have hii : (i : Int) < 1000 := by omega
        go_wp2
        go_loopw [14, 15] (fun sv kv w2 => ∃ kk : Nat, kk ≤ s.length ∧ kv = .int .i64 kk ∧ sv = .int .i64 (dotTo D U kk) ∧ Below W14.heap.size W14 w2) (fun _ kv _ => s.length - (intOf kv).toNat)
        case atStart => exact ⟨0, by omega, rfl, rfl, Below.refl _ _⟩
        case round =>
          obtain ⟨kk, hkk, rfl, rfl, hBs⟩ := hrel
          have HBs := Lib.hid hBs
          have cHCs := keep_below hBs _ _ HCr.out
          clear cHCr
          by_cases hkl : kk < s.length
          · obtain ⟨b3, o3, c3, x3, e3, hx3, hc3⟩ := slc_at (Value.int .i64) HFz.out kk (by rw [HUL.out]; exact hkl)
            obtain ⟨e3a, e3b⟩ : aoq = some ⟨b3, o3, none⟩ ∧ capq = c3 := by cases e3; exact ⟨rfl, rfl⟩
            subst e3a
            obtain ⟨b4, o4, c4, x4, e4, hx4, hc4⟩ := slc_at (s := .slice aoy D.length capy) (Value.int .i64) (by have := HYz.out; rw [← HSTL.out] at this; exact this) kk (by rw [HSTL.out]; exact hkl)
            obtain ⟨e4a, e4b⟩ : aoy = some ⟨b4, o4, none⟩ ∧ capy = c4 := by cases e4; exact ⟨rfl, rfl⟩
            subst e4a
            have g3 : U.getD kk 0 = x3 := by rw [List.getD_eq_getElem?_getD, hx3]; rfl
            have g4 : D.getD kk 0 = x4 := by rw [List.getD_eq_getElem?_getD, hx4]; rfl
            obtain ⟨d1, d2, d3⟩ := HDP.out kk hkl
            rw [g3, g4] at d2 d3
            have HDS := Lib.hid (show dotTo D U (kk + 1) = dotTo D U kk + x4 * x3 by rw [dotTo, g3, g4])
            obtain ⟨S0, hS0⟩ : ∃ S0, dotTo D U kk = S0 := ⟨_, rfl⟩
            rw [hS0] at d1 d3 HDS ⊢
            obtain ⟨M0, hM0⟩ : ∃ M0, x4 * x3 = M0 := ⟨_, rfl⟩
            rw [hM0] at d2 d3 HDS
            have q1 : IntKind.i64.wrap (x4 * x3) = M0 := by rw [hM0]; exact IntWalk.i64_in _ (by omega)
            have q2 : IntKind.i64.wrap (S0 + M0) = S0 + M0 := IntWalk.i64_in _ (by omega)
            have hkU : kk < U.length := by rw [HUL.out]; exact hkl
            have hc3s := keep_below hBs _ _ hc3
            have hc4s := keep_below hBs _ _ hc4
            clear e3 e4 hx3 hx4 g3 g4 hS0 hM0 hBs hc3 hc4
            go_wp2
            go_region
            all_goals
              go_wp2
              go_roundw
              case rel => exact ⟨kk + 1, by omega, by go_num, by rw [HDS.out], Below.drewN' HBs.out 1⟩
              case measure => simp [intOf]; omega
          · have hke : kk = s.length := by omega
            have HSUM := Lib.hid (show dotTo D U kk = (i : Int) by rw [hke]; exact HTOT.out)
            rw [HSUM.out]
            clear hke hBs
            go_wp2
            go_roundw
            case rel => exact ⟨i + 1, by omega, by go_num, HBr.out.trans (HBs.out.mono HBr.out.size)⟩
            case measure => simp [intOf]; omega
    · have hiN : i = N := by omega
      subst hiN
      have HNO := Lib.hid (show hasG s (i : Int) = false by unfold hasG; rw [HP.out.1, HN.out, decide_eq_false (by omega)]; simp)
      have HN1 := Lib.hid (show hasG s (-1) = false by unfold hasG; rw [decide_eq_false (fun h => absurd h.1 (by decide))]; simp)
      have HI0 := Lib.hid (show idxG s (i : Int) = [] by unfold idxG; rw [HNO.out]; rfl)
      replace HB := Lib.hid (HB.out.trans (HBr.out.mono HB.out.size))
      clear hBr
      go_wp2_with fail
      refine (sindex_calls _ s (i : Int) _ HSr.out HL.out).mono ?_
      rintro e W21 ⟨z, rfl, hs, hB⟩
      replace HSr := Lib.hid (HSr.out.below hB)
      replace HB := Lib.hid (HB.out.trans (hB.mono HB.out.size))
      rw [HNO.out]
      clear hs
      clear hB
      go_wp2_with fail
      refine (sindex_calls _ s (-1) _ HSr.out HL.out).mono ?_
      rintro e W22 ⟨z2, rfl, hs, hB⟩
      replace HSr := Lib.hid (HSr.out.below hB)
      replace HB := Lib.hid (HB.out.trans (hB.mono HB.out.size))
      rw [HN1.out]
      clear hs
      clear hB
      go_wp2_with fail
      refine (awake6_calls _).mono ?_
      rintro e W23 ⟨rfl, hB⟩
      replace HSr := Lib.hid (HSr.out.below hB)
      replace HB := Lib.hid (HB.out.trans (hB.mono HB.out.size))
      clear hB
      go_wp2
      go_ret
      exact ⟨rfl, HB.out⟩
end Go.Proofs.Ytnebondinjjodaa

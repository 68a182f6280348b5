/- Layer 15's law: PickTakes. -/
import Derived.Test.YtpcighgflolojaaDoorMgPi1
import Derived.Test.YtpcighgflolojaaDoorMgNu1
namespace Go.Proofs.YtpcighgflolojaaDoor
set_option maxRecDepth 100000
open Go.RowKit Fl
set_option linter.unusedVariables false

theorem tak_neg {n : Nat} {many : Int} {k : Nat} {x : Int} (h : (takL n many)[k]? = some x) (hx : x < 0) : x = -1 := by
  have hk := (List.getElem?_eq_some_iff.1 h).1
  unfold takL at h hk
  rw [List.length_map, List.length_range] at hk
  rw [List.getElem?_map, List.getElem?_range hk] at h
  obtain rfl := Option.some.inj h
  unfold takF at hx ⊢
  split
  · rename_i hc; rw [if_pos hc] at hx; omega
  · rfl
theorem set_same {l : List Int} {k : Nat} {x : Int} (h : l[k]? = some x) : (ints l).set k (.int .i64 x) = ints l := by
  apply List.ext_getElem?
  intro i
  rw [List.getElem?_set]
  split
  · rename_i e; subst e
    obtain ⟨h1, h2⟩ := List.getElem?_eq_some_iff.1 h
    rw [if_pos (by rw [ints_len]; exact h1)]
    unfold ints
    rw [List.getElem?_map, h]; rfl
  · rfl
theorem drp_big {n : Nat} {many : Int} (hn : n ≤ 300) (h : 400 < many ∨ many < -400) : (drpL n many).length = 0 := by
  rw [drp_len]; unfold drpZ; split <;> omega
theorem drp_sum {n : Nat} {many : Int} (h : 0 ≤ many) (h2 : many ≤ n) : many.natAbs + (drpL n many).length = n := by
  rw [drp_len]; unfold drpZ; rw [if_neg (by omega)]; omega
set_option maxHeartbeats 16000000 in
theorem pickTakes_walk (nn many by_ mo : Int) (w : World) (hm1 : -9223372036854775808 ≤ many) (hm2 : many ≤ 9223372036854775807) (hb1 : -9223372036854775808 ≤ by_) (hb2 : by_ ≤ 9223372036854775807) (hT : TabAt w) :
    Calls Tryd.prog 4 #[.int .i64 nn, .int .i64 many, .int .i64 by_, .int .i64 mo] w (Yes15 w) := by
  have HT := Lib.hid hT
  have HT0 := Lib.hid hT
  have HB := Lib.hid (Below.refl w.heap.size w)
  clear hT
  by_cases g1 : nn < 0
  · go_enter Tryd.func4, Tryd.ntmps4
    go_wp2_with fail
    refine (awake15_calls _ HT.out).mono ?_
    rintro e W11 ⟨rfl, hB⟩
    replace HB := Lib.hid (HB.out.trans (hB.mono HB.out.size))
    replace HT := Lib.hid (fun j hj => keep_below hB _ _ (HT.out j hj))
    clear hB
    go_wp2_with fail
    go_ret
    exact ⟨rfl, HB.out⟩
  by_cases g2 : 300 < nn
  · go_enter Tryd.func4, Tryd.ntmps4
    go_wp2_with fail
    refine (awake15_calls _ HT.out).mono ?_
    rintro e W11 ⟨rfl, hB⟩
    replace HB := Lib.hid (HB.out.trans (hB.mono HB.out.size))
    replace HT := Lib.hid (fun j hj => keep_below hB _ _ (HT.out j hj))
    clear hB
    go_wp2_with fail
    go_ret
    exact ⟨rfl, HB.out⟩
  by_cases g3 : mo < 0
  · go_enter Tryd.func4, Tryd.ntmps4
    go_wp2_with fail
    refine (awake15_calls _ HT.out).mono ?_
    rintro e W11 ⟨rfl, hB⟩
    replace HB := Lib.hid (HB.out.trans (hB.mono HB.out.size))
    replace HT := Lib.hid (fun j hj => keep_below hB _ _ (HT.out j hj))
    clear hB
    go_wp2_with fail
    go_ret
    exact ⟨rfl, HB.out⟩
  by_cases g4 : 1000 < mo
  · go_enter Tryd.func4, Tryd.ntmps4
    go_wp2_with fail
    refine (awake15_calls _ HT.out).mono ?_
    rintro e W11 ⟨rfl, hB⟩
    replace HB := Lib.hid (HB.out.trans (hB.mono HB.out.size))
    replace HT := Lib.hid (fun j hj => keep_below hB _ _ (HT.out j hj))
    clear hB
    go_wp2_with fail
    go_ret
    exact ⟨rfl, HB.out⟩
  obtain ⟨n, hn⟩ : ∃ n : Nat, nn = (n : Int) := ⟨nn.toNat, by omega⟩
  obtain ⟨m, hm⟩ : ∃ m : Nat, mo = (m : Int) := ⟨mo.toNat, by omega⟩
  subst hn hm
  have HN := Lib.hid (show n ≤ 300 by omega)
  have HM := Lib.hid (show m ≤ 1000 by omega)
  have HN2 := Lib.hid (show n ≤ 1048576 by omega)
  have HM2 := Lib.hid (show m ≤ 1048576 by omega)
  obtain ⟨q, hq⟩ : ∃ q, many.natAbs = q := ⟨_, rfl⟩
  have HQ := Lib.hid hq
  go_enter Tryd.func4, Tryd.ntmps4
  go_wp2_with fail
  by_cases hqm : m < q
  · have HNQ := Lib.hid (show m < many.natAbs by rw [HQ.out]; omega)
    refine (ptaken_no n many m _ HNQ.out HM2.out hm1 hm2).mono ?_
    rintro e w1 ⟨rfl, rfl⟩
    go_wp2_with fail
    refine (prolled_calls n by_ _ HN2.out hb1 hb2).mono ?_
    rintro e W11 ⟨v1, rfl, hv1, hB⟩
    replace HB := Lib.hid (HB.out.trans (hB.mono HB.out.size))
    replace HT := Lib.hid (fun j hj => keep_below hB _ _ (HT.out j hj))
    have H1 := Lib.hid hv1.any
    obtain ⟨a1, c1, rfl, _⟩ := hv1.opened
    clear hv1
    clear hB
    go_wp2_with fail
    refine (rrolled_calls n by_ _ HN2.out hb1 hb2).mono ?_
    rintro e W12 ⟨v2, rfl, hv2, hB⟩
    replace HB := Lib.hid (HB.out.trans (hB.mono HB.out.size))
    replace HT := Lib.hid (fun j hj => keep_below hB _ _ (HT.out j hj))
    replace H1 := Lib.hid (H1.out.below hB)
    have H2 := Lib.hid hv2.any
    obtain ⟨a2, c2, rfl, _⟩ := hv2.opened
    clear hv2
    clear hB
    go_wp2_with fail
    refine (ints_eq _ _ (rolL n by_) _ _ H1.out H2.out rfl (by have := HN2.out; simp [rolL]; omega)).mono ?_
    rintro e W13 ⟨rfl, hB⟩
    replace HB := Lib.hid (HB.out.trans (hB.mono HB.out.size))
    replace HT := Lib.hid (fun j hj => keep_below hB _ _ (HT.out j hj))
    replace H1 := Lib.hid (H1.out.below hB)
    replace H2 := Lib.hid (H2.out.below hB)
    clear hB
    clear H1 H2
    by_cases u1 : (m : Int) < many
    · go_wp2_with fail
      refine (pdropped_calls n many _ HN2.out hm1 hm2).mono ?_
      rintro e W14 ⟨v3, rfl, hv3, hB⟩
      replace HB := Lib.hid (HB.out.trans (hB.mono HB.out.size))
      replace HT := Lib.hid (fun j hj => keep_below hB _ _ (HT.out j hj))
      have H3 := Lib.hid hv3.any
      obtain ⟨a3, c3, rfl, _⟩ := hv3.opened
      clear hv3
      clear hB
      obtain ⟨d, hd⟩ : ∃ d, (drpL n many).length = d := ⟨_, rfl⟩
      rw [hd] at H3 ⊢
      have HDL := Lib.hid hd
      clear hd
      by_cases j1 : 400 < many
      · have hd0 : d = 0 := by rw [← HDL.out]; exact drp_big HN.out (Or.inl j1)
        subst hd0
        go_wp2_with fail
        refine (awake15_calls _ HT.out).mono ?_
        rintro e W15 ⟨rfl, hB⟩
        replace HB := Lib.hid (HB.out.trans (hB.mono HB.out.size))
        replace HT := Lib.hid (fun j hj => keep_below hB _ _ (HT.out j hj))
        replace H3 := Lib.hid (H3.out.below hB)
        clear hB
        go_wp2_with fail
        go_ret
        exact ⟨rfl, HB.out⟩
      by_cases j2 : many < -400
      · have hd0 : d = 0 := by rw [← HDL.out]; exact drp_big HN.out (Or.inr j2)
        subst hd0
        go_wp2_with fail
        refine (awake15_calls _ HT.out).mono ?_
        rintro e W15 ⟨rfl, hB⟩
        replace HB := Lib.hid (HB.out.trans (hB.mono HB.out.size))
        replace HT := Lib.hid (fun j hj => keep_below hB _ _ (HT.out j hj))
        replace H3 := Lib.hid (H3.out.below hB)
        clear hB
        go_wp2_with fail
        go_ret
        exact ⟨rfl, HB.out⟩
      go_wp2_with fail
      refine (rdropped_calls n many _ HN2.out (by omega) (by omega)).mono ?_
      rintro e W15 ⟨v4, rfl, hv4, hB⟩
      replace HB := Lib.hid (HB.out.trans (hB.mono HB.out.size))
      replace HT := Lib.hid (fun j hj => keep_below hB _ _ (HT.out j hj))
      replace H3 := Lib.hid (H3.out.below hB)
      rw [HDL.out] at hv4
      have H4 := Lib.hid hv4.any
      obtain ⟨a4, c4, rfl, _⟩ := hv4.opened
      clear hv4
      clear hB
      go_wp2_with fail
      refine (ints_eq _ _ (drpL n many) d _ H3.out H4.out HDL.out (by rw [← HDL.out, drp_len]; have := drp_le n many; have := HN2.out; omega)).mono ?_
      rintro e W16 ⟨rfl, hB⟩
      replace HB := Lib.hid (HB.out.trans (hB.mono HB.out.size))
      replace HT := Lib.hid (fun j hj => keep_below hB _ _ (HT.out j hj))
      replace H3 := Lib.hid (H3.out.below hB)
      replace H4 := Lib.hid (H4.out.below hB)
      clear hB
      by_cases s1 : many < 0
      · go_wp2_with fail
        refine (awake15_calls _ HT.out).mono ?_
        rintro e W17 ⟨rfl, hB⟩
        replace HB := Lib.hid (HB.out.trans (hB.mono HB.out.size))
        replace HT := Lib.hid (fun j hj => keep_below hB _ _ (HT.out j hj))
        replace H3 := Lib.hid (H3.out.below hB)
        replace H4 := Lib.hid (H4.out.below hB)
        clear hB
        go_wp2_with fail
        go_ret
        exact ⟨rfl, HB.out⟩
      by_cases s2 : (n : Int) < many
      · go_wp2_with fail
        refine (awake15_calls _ HT.out).mono ?_
        rintro e W17 ⟨rfl, hB⟩
        replace HB := Lib.hid (HB.out.trans (hB.mono HB.out.size))
        replace HT := Lib.hid (fun j hj => keep_below hB _ _ (HT.out j hj))
        replace H3 := Lib.hid (H3.out.below hB)
        replace H4 := Lib.hid (H4.out.below hB)
        clear hB
        go_wp2_with fail
        go_ret
        exact ⟨rfl, HB.out⟩
      have s3 : (m : Int) < many := by have := HNQ.out; omega
      go_wp2_with fail
      refine (awake15_calls _ HT.out).mono ?_
      rintro e W17 ⟨rfl, hB⟩
      replace HB := Lib.hid (HB.out.trans (hB.mono HB.out.size))
      replace HT := Lib.hid (fun j hj => keep_below hB _ _ (HT.out j hj))
      replace H3 := Lib.hid (H3.out.below hB)
      replace H4 := Lib.hid (H4.out.below hB)
      clear hB
      go_wp2_with fail
      go_ret
      exact ⟨rfl, HB.out⟩
    have u2 : many < -(m : Int) := by have := HNQ.out; omega
    have u3 : many < 0 - (m : Int) := by omega
    go_wp2_with fail
    refine (pdropped_calls n many _ HN2.out hm1 hm2).mono ?_
    rintro e W14 ⟨v3, rfl, hv3, hB⟩
    replace HB := Lib.hid (HB.out.trans (hB.mono HB.out.size))
    replace HT := Lib.hid (fun j hj => keep_below hB _ _ (HT.out j hj))
    have H3 := Lib.hid hv3.any
    obtain ⟨a3, c3, rfl, _⟩ := hv3.opened
    clear hv3
    clear hB
    obtain ⟨d, hd⟩ : ∃ d, (drpL n many).length = d := ⟨_, rfl⟩
    rw [hd] at H3 ⊢
    have HDL := Lib.hid hd
    clear hd
    by_cases j1 : 400 < many
    · have hd0 : d = 0 := by rw [← HDL.out]; exact drp_big HN.out (Or.inl j1)
      subst hd0
      go_wp2_with fail
      refine (awake15_calls _ HT.out).mono ?_
      rintro e W15 ⟨rfl, hB⟩
      replace HB := Lib.hid (HB.out.trans (hB.mono HB.out.size))
      replace HT := Lib.hid (fun j hj => keep_below hB _ _ (HT.out j hj))
      replace H3 := Lib.hid (H3.out.below hB)
      clear hB
      go_wp2_with fail
      go_ret
      exact ⟨rfl, HB.out⟩
    by_cases j2 : many < -400
    · have hd0 : d = 0 := by rw [← HDL.out]; exact drp_big HN.out (Or.inr j2)
      subst hd0
      go_wp2_with fail
      refine (awake15_calls _ HT.out).mono ?_
      rintro e W15 ⟨rfl, hB⟩
      replace HB := Lib.hid (HB.out.trans (hB.mono HB.out.size))
      replace HT := Lib.hid (fun j hj => keep_below hB _ _ (HT.out j hj))
      replace H3 := Lib.hid (H3.out.below hB)
      clear hB
      go_wp2_with fail
      go_ret
      exact ⟨rfl, HB.out⟩
    go_wp2_with fail
    refine (rdropped_calls n many _ HN2.out (by omega) (by omega)).mono ?_
    rintro e W15 ⟨v4, rfl, hv4, hB⟩
    replace HB := Lib.hid (HB.out.trans (hB.mono HB.out.size))
    replace HT := Lib.hid (fun j hj => keep_below hB _ _ (HT.out j hj))
    replace H3 := Lib.hid (H3.out.below hB)
    rw [HDL.out] at hv4
    have H4 := Lib.hid hv4.any
    obtain ⟨a4, c4, rfl, _⟩ := hv4.opened
    clear hv4
    clear hB
    go_wp2_with fail
    refine (ints_eq _ _ (drpL n many) d _ H3.out H4.out HDL.out (by rw [← HDL.out, drp_len]; have := drp_le n many; have := HN2.out; omega)).mono ?_
    rintro e W16 ⟨rfl, hB⟩
    replace HB := Lib.hid (HB.out.trans (hB.mono HB.out.size))
    replace HT := Lib.hid (fun j hj => keep_below hB _ _ (HT.out j hj))
    replace H3 := Lib.hid (H3.out.below hB)
    replace H4 := Lib.hid (H4.out.below hB)
    clear hB
    by_cases s1 : many < 0
    · go_wp2_with fail
      refine (awake15_calls _ HT.out).mono ?_
      rintro e W17 ⟨rfl, hB⟩
      replace HB := Lib.hid (HB.out.trans (hB.mono HB.out.size))
      replace HT := Lib.hid (fun j hj => keep_below hB _ _ (HT.out j hj))
      replace H3 := Lib.hid (H3.out.below hB)
      replace H4 := Lib.hid (H4.out.below hB)
      clear hB
      go_wp2_with fail
      go_ret
      exact ⟨rfl, HB.out⟩
    by_cases s2 : (n : Int) < many
    · go_wp2_with fail
      refine (awake15_calls _ HT.out).mono ?_
      rintro e W17 ⟨rfl, hB⟩
      replace HB := Lib.hid (HB.out.trans (hB.mono HB.out.size))
      replace HT := Lib.hid (fun j hj => keep_below hB _ _ (HT.out j hj))
      replace H3 := Lib.hid (H3.out.below hB)
      replace H4 := Lib.hid (H4.out.below hB)
      clear hB
      go_wp2_with fail
      go_ret
      exact ⟨rfl, HB.out⟩
    have s3 : (m : Int) < many := by have := HNQ.out; omega
    go_wp2_with fail
    refine (awake15_calls _ HT.out).mono ?_
    rintro e W17 ⟨rfl, hB⟩
    replace HB := Lib.hid (HB.out.trans (hB.mono HB.out.size))
    replace HT := Lib.hid (fun j hj => keep_below hB _ _ (HT.out j hj))
    replace H3 := Lib.hid (H3.out.below hB)
    replace H4 := Lib.hid (H4.out.below hB)
    clear hB
    go_wp2_with fail
    go_ret
    exact ⟨rfl, HB.out⟩
  have HQM := Lib.hid (show many.natAbs ≤ m by rw [HQ.out]; omega)
  obtain ⟨g, hg⟩ : ∃ g, w.heap.size = g := ⟨_, rfl⟩
  refine (ptaken_own n many m _ HN2.out HQM.out HM2.out).mono ?_
  rintro e W11 ⟨rfl, hO, hB⟩
  replace HB := Lib.hid (HB.out.trans (hB.mono HB.out.size))
  replace HT := Lib.hid (fun j hj => keep_below hB _ _ (HT.out j hj))
  rw [HQ.out, hg] at hO
  rw [HQ.out, hg]
  have HO := Lib.hid hO
  have HG := Lib.hid hg
  clear hO hg
  clear hB
  go_wp2_with fail
  refine (prolled_calls n by_ _ HN2.out hb1 hb2).mono ?_
  rintro e W12 ⟨v1, rfl, hv1, hB⟩
  replace HB := Lib.hid (HB.out.trans (hB.mono HB.out.size))
  replace HT := Lib.hid (fun j hj => keep_below hB _ _ (HT.out j hj))
  replace HO := Lib.hid (owns_below HO.out hB)
  have H1 := Lib.hid hv1.any
  obtain ⟨a1, c1, rfl, _⟩ := hv1.opened
  clear hv1
  clear hB
  go_wp2_with fail
  refine (rrolled_calls n by_ _ HN2.out hb1 hb2).mono ?_
  rintro e W13 ⟨v2, rfl, hv2, hB⟩
  replace HB := Lib.hid (HB.out.trans (hB.mono HB.out.size))
  replace HT := Lib.hid (fun j hj => keep_below hB _ _ (HT.out j hj))
  replace HO := Lib.hid (owns_below HO.out hB)
  replace H1 := Lib.hid (H1.out.below hB)
  have H2 := Lib.hid hv2.any
  obtain ⟨a2, c2, rfl, _⟩ := hv2.opened
  clear hv2
  clear hB
  go_wp2_with fail
  refine (ints_eq _ _ (rolL n by_) _ _ H1.out H2.out rfl (by have := HN2.out; simp [rolL]; omega)).mono ?_
  rintro e W14 ⟨rfl, hB⟩
  replace HB := Lib.hid (HB.out.trans (hB.mono HB.out.size))
  replace HT := Lib.hid (fun j hj => keep_below hB _ _ (HT.out j hj))
  replace HO := Lib.hid (owns_below HO.out hB)
  replace H1 := Lib.hid (H1.out.below hB)
  replace H2 := Lib.hid (H2.out.below hB)
  clear hB
  clear H1 H2
  have u1 : ¬ (m : Int) < many := by have := HQM.out; omega
  have u2 : ¬ many < -(m : Int) := by have := HQM.out; omega
  have u3 : ¬ many < 0 - (m : Int) := by omega
  go_wp2_with fail
  go_loopw [11] (fun i wr => ∃ k : Nat, k ≤ q ∧ i = .int .i64 k ∧ wr.ownsRow g 3 1 (.slice (some ⟨g, 0, none⟩) q q) q (ints (takL n many)) ∧ Below w.heap.size w wr) (fun i _ => q - (intOf i).toNat)
  case atStart => exact ⟨0, by omega, rfl, HO.out, HB.out⟩
  case round =>
    obtain ⟨k, hk, rfl, hown, hBr⟩ := hrel
    clear HO HB HT
    have HO := Lib.hid hown
    have HB := Lib.hid hBr
    clear hown hBr
    by_cases hlt : k < q
    · have hkl : k < (ints (takL n many)).length := by rw [ints_len, tak_len, HQ.out]; exact hlt
      have hcw := owns_cell HO.out k hkl
      have hfr := World.ownsRow.frozenAt HO.out k
      obtain ⟨x, hx⟩ : ∃ x, (takL n many)[k]? = some x := ⟨_, List.getElem?_eq_getElem (by rw [tak_len, HQ.out]; exact hlt)⟩
      have HX := Lib.hid hx
      rw [show (ints (takL n many))[k]'hkl = .int .i64 x from by
        obtain ⟨h1, h2⟩ := List.getElem?_eq_some_iff.1 hx
        rw [← h2]; simp [ints]] at hcw
      clear hx
      by_cases hneg : x < 0
      · have hx1 := tak_neg HX.out hneg
        subst hx1
        go_wp2
        go_roundw
        case rel =>
          refine ⟨k + 1, by omega, by go_num, ?_, HB.out.setCell (by show w.heap.size ≤ g; rw [HG.out]; exact Nat.le_refl _) _⟩
          have := (World.ownsRow.stored HO.out k (.int .i64 (-1))).1
          rwa [set_same HX.out] at this
        case measure => simp [intOf]; omega
      · go_wp2
        go_roundw
        case rel => exact ⟨k + 1, by omega, by go_num, HO.out, HB.out⟩
        case measure => simp [intOf]; omega
    · have HT := Lib.hid (show TabAt wr from fun j hj => keep_below HB.out _ _ (HT0.out j hj))
      have hkl : ¬ (k : Int) < (q : Int) := by omega
      have HA := Lib.hid ((Slc.owned HO.out).any)
      clear HO
      go_wp2_with fail
      refine (rtaken_calls n many _ HN2.out (by omega) (by omega)).mono ?_
      rintro e W15 ⟨v5, rfl, hv5, hB⟩
      replace HB := Lib.hid (HB.out.trans (hB.mono HB.out.size))
      replace HT := Lib.hid (fun j hj => keep_below hB _ _ (HT.out j hj))
      replace HA := Lib.hid (HA.out.below hB)
      rw [tak_len, HQ.out] at hv5
      have H5 := Lib.hid hv5.any
      obtain ⟨a5, c5, rfl, _⟩ := hv5.opened
      clear hv5
      clear hB
      go_wp2_with fail
      refine (ints_eq _ _ (takL n many) q _ HA.out H5.out (by rw [tak_len, HQ.out]) (by have h1 := HQM.out; have h2 := HM2.out; rw [HQ.out] at h1; omega)).mono ?_
      rintro e W16 ⟨rfl, hB⟩
      replace HB := Lib.hid (HB.out.trans (hB.mono HB.out.size))
      replace HT := Lib.hid (fun j hj => keep_below hB _ _ (HT.out j hj))
      replace HA := Lib.hid (HA.out.below hB)
      replace H5 := Lib.hid (H5.out.below hB)
      clear hB
      go_wp2_with fail
      refine (pdropped_calls n many _ HN2.out hm1 hm2).mono ?_
      rintro e W17 ⟨v3, rfl, hv3, hB⟩
      replace HB := Lib.hid (HB.out.trans (hB.mono HB.out.size))
      replace HT := Lib.hid (fun j hj => keep_below hB _ _ (HT.out j hj))
      replace HA := Lib.hid (HA.out.below hB)
      replace H5 := Lib.hid (H5.out.below hB)
      have H3 := Lib.hid hv3.any
      obtain ⟨a3, c3, rfl, _⟩ := hv3.opened
      clear hv3
      clear hB
      obtain ⟨d, hd⟩ : ∃ d, (drpL n many).length = d := ⟨_, rfl⟩
      rw [hd] at H3 ⊢
      have HDL := Lib.hid hd
      clear hd
      by_cases j1 : 400 < many
      · have hd0 : d = 0 := by rw [← HDL.out]; exact drp_big HN.out (Or.inl j1)
        subst hd0
        go_wp2_with fail
        refine (awake15_calls _ HT.out).mono ?_
        rintro e W18 ⟨rfl, hB⟩
        replace HB := Lib.hid (HB.out.trans (hB.mono HB.out.size))
        replace HT := Lib.hid (fun j hj => keep_below hB _ _ (HT.out j hj))
        replace HA := Lib.hid (HA.out.below hB)
        replace H5 := Lib.hid (H5.out.below hB)
        replace H3 := Lib.hid (H3.out.below hB)
        clear hB
        go_wp2_with fail
        go_ret
        exact ⟨rfl, HB.out⟩
      by_cases j2 : many < -400
      · have hd0 : d = 0 := by rw [← HDL.out]; exact drp_big HN.out (Or.inr j2)
        subst hd0
        go_wp2_with fail
        refine (awake15_calls _ HT.out).mono ?_
        rintro e W18 ⟨rfl, hB⟩
        replace HB := Lib.hid (HB.out.trans (hB.mono HB.out.size))
        replace HT := Lib.hid (fun j hj => keep_below hB _ _ (HT.out j hj))
        replace HA := Lib.hid (HA.out.below hB)
        replace H5 := Lib.hid (H5.out.below hB)
        replace H3 := Lib.hid (H3.out.below hB)
        clear hB
        go_wp2_with fail
        go_ret
        exact ⟨rfl, HB.out⟩
      go_wp2_with fail
      refine (rdropped_calls n many _ HN2.out (by omega) (by omega)).mono ?_
      rintro e W18 ⟨v4, rfl, hv4, hB⟩
      replace HB := Lib.hid (HB.out.trans (hB.mono HB.out.size))
      replace HT := Lib.hid (fun j hj => keep_below hB _ _ (HT.out j hj))
      replace HA := Lib.hid (HA.out.below hB)
      replace H5 := Lib.hid (H5.out.below hB)
      replace H3 := Lib.hid (H3.out.below hB)
      rw [HDL.out] at hv4
      have H4 := Lib.hid hv4.any
      obtain ⟨a4, c4, rfl, _⟩ := hv4.opened
      clear hv4
      clear hB
      go_wp2_with fail
      refine (ints_eq _ _ (drpL n many) d _ H3.out H4.out HDL.out (by rw [← HDL.out, drp_len]; have := drp_le n many; have := HN2.out; omega)).mono ?_
      rintro e W19 ⟨rfl, hB⟩
      replace HB := Lib.hid (HB.out.trans (hB.mono HB.out.size))
      replace HT := Lib.hid (fun j hj => keep_below hB _ _ (HT.out j hj))
      replace HA := Lib.hid (HA.out.below hB)
      replace H5 := Lib.hid (H5.out.below hB)
      replace H3 := Lib.hid (H3.out.below hB)
      replace H4 := Lib.hid (H4.out.below hB)
      clear hB
      by_cases s1 : many < 0
      · go_wp2_with fail
        refine (awake15_calls _ HT.out).mono ?_
        rintro e W20 ⟨rfl, hB⟩
        replace HB := Lib.hid (HB.out.trans (hB.mono HB.out.size))
        replace HT := Lib.hid (fun j hj => keep_below hB _ _ (HT.out j hj))
        replace HA := Lib.hid (HA.out.below hB)
        replace H5 := Lib.hid (H5.out.below hB)
        replace H3 := Lib.hid (H3.out.below hB)
        replace H4 := Lib.hid (H4.out.below hB)
        clear hB
        go_wp2_with fail
        go_ret
        exact ⟨rfl, HB.out⟩
      by_cases s2 : (n : Int) < many
      · go_wp2_with fail
        refine (awake15_calls _ HT.out).mono ?_
        rintro e W20 ⟨rfl, hB⟩
        replace HB := Lib.hid (HB.out.trans (hB.mono HB.out.size))
        replace HT := Lib.hid (fun j hj => keep_below hB _ _ (HT.out j hj))
        replace HA := Lib.hid (HA.out.below hB)
        replace H5 := Lib.hid (H5.out.below hB)
        replace H3 := Lib.hid (H3.out.below hB)
        replace H4 := Lib.hid (H4.out.below hB)
        clear hB
        go_wp2_with fail
        go_ret
        exact ⟨rfl, HB.out⟩
      have s3 : ¬ (m : Int) < many := by omega
      have hdb : d ≤ 1048576 := by rw [← HDL.out, drp_len]; have h1 := drp_le n many; have h2 := HN2.out; omega
      have hqb : q ≤ 1000 := by have h1 := HQM.out; have h2 := HM.out; rw [HQ.out] at h1; omega
      have hsum : ((q : Int) + (d : Int) == (n : Int)) = true := by have := drp_sum (n := n) (many := many) (by omega) (by omega); rw [HDL.out, HQ.out] at this; simp; omega
      go_wp2_with fail
      refine (awake15_calls _ HT.out).mono ?_
      rintro e W20 ⟨rfl, hB⟩
      replace HB := Lib.hid (HB.out.trans (hB.mono HB.out.size))
      replace HT := Lib.hid (fun j hj => keep_below hB _ _ (HT.out j hj))
      replace HA := Lib.hid (HA.out.below hB)
      replace H5 := Lib.hid (H5.out.below hB)
      replace H3 := Lib.hid (H3.out.below hB)
      replace H4 := Lib.hid (H4.out.below hB)
      clear hB
      go_wp2_with fail
      go_ret
      exact ⟨rfl, HB.out⟩

theorem pickTakes_frame (w : World) (nn : Int) (_ : (Lit.int .i64 nn).wf = true) (many : Int) (hm : (Lit.int .i64 many).wf = true) (by_ : Int) (hb : (Lit.int .i64 by_).wf = true) (mo : Int) (_ : (Lit.int .i64 mo).wf = true) (hT : TabAt w) :
    Calls Tryd.prog 4 #[.int .i64 nn, .int .i64 many, .int .i64 by_, .int .i64 mo] w fun e w' => e = .returned (.bool true) ∧ Below w.heap.size w w' := by
  obtain ⟨h1, h2⟩ := wf_i64 hm
  obtain ⟨h3, h4⟩ := wf_i64 hb
  exact pickTakes_walk nn many by_ mo w h1 h2 h3 h4 hT
end Go.Proofs.YtpcighgflolojaaDoor
